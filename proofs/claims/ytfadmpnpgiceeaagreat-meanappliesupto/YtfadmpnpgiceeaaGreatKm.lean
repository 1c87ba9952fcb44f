import Derived.Test.YtfadmpnpgiceeaaGreatKl
import Derived.Deep.RegionHeld3
import Derived.Deep.AppendLies
import Derived.Test.YtfadmpnpgiceeaaGreatKk

/- workcellref: FluidDraw walked. -/
namespace Go.Proofs.YtfadmpnpgiceeaaGreat.F
open Go.RowKit
theorem drawR_all {C : ByteArray → Prop} (v : Int) {ps : List Pc} (h : ∀ q ∈ ps, C q.1) : (∀ q ∈ (drawR v ps).1, C q.1) ∧ (∀ q ∈ (drawR v ps).2.1, C q.1) := by
 induction ps using snoc_ind with
 | h0 => exact ⟨(fun q hq => by cases hq), (fun q hq => by cases hq)⟩
 | h1 a p ih =>
  obtain ⟨i1, i2⟩ := ih (fun q hq => h q (by simp [hq]))
  have hp := h p (by simp)
  rw [drawR_snoc]
  generalize drawR v a = s at *
  unfold rstep
  split
  ·exact ⟨fun q hq => by rcases List.mem_append.1 hq with hq | hq; exact i1 q hq; simp at hq; subst hq; exact hp, i2⟩
  ·exact ⟨(fun q hq => by rcases List.mem_append.1 hq with hq | hq; exact i1 q hq; simp at hq; subst hq; exact hp), (fun q hq => by rcases List.mem_append.1 hq with hq | hq; exact i2 q hq; simp at hq; subst hq; exact hp)⟩
theorem length_drawR (v : Int) (ps : List Pc) : (drawR v ps).1.length ≤ ps.length ∧ (drawR v ps).2.1.length ≤ ps.length := by
 induction ps using snoc_ind with
 | h0 => simp [drawR]
 | h1 a p ih =>
  rw [drawR_snoc]
  generalize drawR v a = s at *
  unfold rstep
  split <;> (simp only [List.length_append, List.length_singleton]; omega)
theorem tame_drawR {v : Int} (hv : 0 ≤ v) {ps : List Pc} (hr : fref ps = 0) : Tame (drawR v ps).1 ∧ Tame (drawR v ps).2.1 := by
 obtain ⟨h1, h2, h3⟩ := fref_in hr
 obtain ⟨e, n1, n2⟩ := draw_same hv h2.nn
 have hl := length_drawR v ps
 have ht := (tot_drawS v ps).1
 rw [e] at ht
 simp only [tot_plainL] at ht
 have t1 := tot_nonneg n1
 have t2 := tot_nonneg n2
 exact ⟨⟨n1, by omega, by omega⟩, ⟨n2, by omega, by omega⟩⟩
theorem drawR_v {v : Int} (h : 0 ≤ v) {ps : List Pc} (hn : Nn ps) : 0 ≤ (drawR v ps).2.2 ∧ (drawR v ps).2.2 ≤ v := by
 have := drawS_v h hn
 rw [(draw_same h hn).1] at this
 exact this
theorem step_append_pc (w : World) {ops : Array Oper} {o : Oper} {a : Act} {K : Act → World → Prop} {Q : Exit → Act → World → Prop} {E : Prop} (hgd : o.guard = none) (s x : Operand)
  (ho : o.op = .call { callee := .builtin .append, args := #[s, x], argTypes := #[24, 24] }) (base : Nat) (v : Value) (ps : List Pc) (hs : a.eval s = v) (hown : Own w base v ps)
  (b : Nat) (l : ByteArray) (n : Int) (hx : a.eval x = .slice (some ⟨b, 0, none⟩) 1 1) (h0 : w.cell? ⟨b, 0, none⟩ = some (.string l)) (h1 : w.cell? ⟨b, 1, none⟩ = some (.int .i64 n))
  (hlen : ps.length ≤ 1000000000000) (hbase : base ≤ w.heap.size)
  (h : ∀ g cap w', Own w' base (.slice (some ⟨g, 0, none⟩) (ps.length + 1) cap) (ps ++ [(l, n)]) → w.grownBy w' v.ownBlock → Loc w v (.slice (some ⟨g, 0, none⟩) (ps.length + 1) cap) → K (a.put o.dst (.slice (some ⟨g, 0, none⟩) (ps.length + 1) cap)) w') :
  if Region.wanted o (yielded ops a.tmps) = true then Oper.wp Tryz.prog o a w K Q else E := by
 obtain ⟨i0, hi, hz0, hz1, hz2⟩ := info_parts Tryz.info64
 refine step_append_lies w hgd s x 24 ho base 64 i0 (.agg #[.string ⟨#[]⟩, .int .i64 0]) 2 24 Tryz.underlying24 hi hz0 hz1 hz2 rfl (by decide) v ps.length (cellsL ps) hs hown ⟨b, 0, none⟩ 1 1 [.string l, .int .i64 n] hx rfl ?_ ?_ (by decide) ?_ ?_ hbase w.heap.size rfl ?_
 ·intro j u hj
  match j, hj with
  | 0, hj => simp at hj; subst hj; simpa [Addr.add] using h0
  | 1, hj => simp at hj; subst hj; simpa [Addr.add] using h1
 ·intro u hu
  simp at hu
  rcases hu with rfl | rfl <;> rfl
 ·unfold maxLen; omega
 ·omega
 ·intro g cap w' h1 h2 h3 _
  refine h g cap w' ?_ h2 (h3.elim (fun e => .inl (by rw [e]; rfl)) fun e => .inr ⟨g, rfl, by omega⟩)
  unfold Own
  rw [cellsL_append, cellsL_one, List.length_append]
  exact h1
theorem Own.drew {w : World} {base : Nat} {v : Value} {ps : List Pc} (h : Own w base v ps) : Own w.drew base v ps := h
theorem new_drew (w : World) (u0 u1 : Value) : ((w.alloc (.cells #[u0, u1] 64)).drew).cell? ⟨w.heap.size, 0, none⟩ = some u0 ∧ ((w.alloc (.cells #[u0, u1] 64)).drew).cell? ⟨w.heap.size, 1, none⟩ = some u1 :=
 ⟨by go_simp, by go_simp⟩
theorem after_append {w wr w1 : World} {base : Nat} {t t' l : Value} {T L : List Pc} (o : Obj) (hB : Below base w wr) (hT : Own wr base t T) (hL : Own wr base l L) (hS : Sep t l) (hs : base ≤ wr.heap.size)
  (hg : (wr.alloc o).grownBy w1 t.ownBlock) (hloc : Loc (wr.alloc o) t t') : Below base w w1 ∧ Own w1 base l L ∧ Sep t' l := by
 have hk := hS.keep (hL.alloc o) hg hloc
 exact ⟨below_grown (hB.alloc hs _) (hT.alloc o) hg (by simp; omega), hk.1, hk.2⟩
theorem old_cell {w wr w1 : World} {base b o : Nat} {u : Value} (hB : Below base w wr) (hB1 : Below base w w1) (hb : b < base) (h : wr.cell? ⟨b, o, none⟩ = some u) : w1.cell? ⟨b, o, none⟩ = some u :=
 (hB1.cell (p := ⟨b, o, none⟩) hb).trans ((hB.cell (p := ⟨b, o, none⟩) hb).symm.trans h)
theorem far_cell {w1 w5 : World} {base b o : Nat} {u l : Value} {L : List Pc} (o' : Obj) (hB : base ≤ w1.heap.size) (hL : Own w1 base l L) (hg : ((w1.alloc o').drew).grownBy w5 l.ownBlock) (hb : b < base) (h : w1.cell? ⟨b, o, none⟩ = some u) : w5.cell? ⟨b, o, none⟩ = some u := by
 refine hg.cell (a := ⟨b, o, none⟩) ?_ (fun e => by have := (World.ownsRow.lt hL b e.symm).1; omega)
 exact (((Below.refl w1.heap.size w1).alloc (Nat.le_refl _) o').cell (p := ⟨b, o, none⟩) (by simp only; omega)).trans h
theorem after_drawn {w w1 w5 : World} {base : Nat} {t t' l : Value} {T L : List Pc} (o : Obj) (hB : Below base w w1) (hT : Own w1 base t T) (hL : Own w1 base l L) (hS : Sep t l) (hs : base ≤ w1.heap.size)
  (hg : ((w1.alloc o).drew).grownBy w5 t.ownBlock) (hloc : Loc ((w1.alloc o).drew) t t') : Below base w w5 ∧ Own w5 base l L ∧ Sep t' l := by
 have hk := hS.keep ((hL.alloc o).drew) hg hloc
 exact ⟨below_grown ((hB.alloc hs _).drew) ((hT.alloc o).drew) hg (by simp; omega), hk.1, hk.2⟩
set_option maxHeartbeats 3200000 in
theorem fluidDraw_ok (ao : Option Addr) (cap : Nat) (ps : List Pc) (v : Int) (w : World) (h : Fl w ao ps) (hr : fref ps = 0) (hv : 0 ≤ v) (hvt : v ≤ tot ps) :
  Calls Tryz.prog 45 #[.slice ao ps.length cap, .int .i64 v] w fun e w' => ∃ x y, e = .returned (.tuple #[x, y, .int .i64 0]) ∧ Own w' w.heap.size x (drawS v ps).1 ∧ Own w' w.heap.size y (drawS v ps).2.1 ∧ Below w.heap.size w w' := by
 have HF : Hid (Fl w ao ps) := h
 have HR : Hid (fref ps = 0) := hr
 clear h hr
 have HI : Hid (ps.length ≤ 100 ∧ Fine ps ∧ tot ps ≤ 1000000000) := fref_in HR.out
 have hl100 := HI.out.1
 have ht9 := HI.out.2.2
 have hd1 : decide (v < 0) = false := by simp; omega
 have hd2 : decide (tot ps < v) = false := by simp; omega
 obtain ⟨i0, hi, hz0, hz1, hz2⟩ := info_parts Tryz.info64
 have HI0 : Hid (Tryz.prog.info? 64 = some i0 ∧ i0.zero = some (.agg #[.string ⟨#[]⟩, .int .i64 0]) ∧ i0.size = 2 ∧ i0.bytes = 24) := ⟨hi, hz0, hz1, hz2⟩
 clear hi hz0 hz1 hz2
 go_enter Tryz.func45, Tryz.ntmps45
 go_wp2_with fail
 refine (fluidTotal_any ao cap ps w HF.out HR.out).mono ?_
 rintro e w1 ⟨rfl, hw1⟩
 obtain rfl := hw1.symm
 clear hw1
 go_wp2
 go_loopw [1, 7, 8, 9] (fun u t l i wr => ∃ k : Nat, k ≤ ps.length ∧ i = .int .i64 k ∧ u = .int .i64 (drawR v (ps.take k)).2.2 ∧ Own wr w.heap.size t (drawR v (ps.take k)).1 ∧ Own wr w.heap.size l (drawR v (ps.take k)).2.1 ∧ Sep t l ∧ Below w.heap.size w wr) (fun _ _ _ i _ => ps.length - (intOf i).toNat)
 case atStart => exact ⟨0, Nat.zero_le _, rfl, rfl, Own.nil _ _, Own.nil _ _, .inl rfl, brf⟩
 case round =>
  obtain ⟨k, hk, rfl, rfl, ht, hl, hs, hb⟩ := hrel
  obtain ⟨ao1, n1, cap1, rfl⟩ := ht.form
  obtain ⟨ao2, n2, cap2, rfl⟩ := hl.form
  have HB3 : Hid (Below w.heap.size w wr) := hb
  have HT : Hid (Own wr w.heap.size (.slice ao1 n1 cap1) (drawR v (ps.take k)).1) := ht
  have HL : Hid (Own wr w.heap.size (.slice ao2 n2 cap2) (drawR v (ps.take k)).2.1) := hl
  have HS : Hid (Sep (.slice ao1 n1 cap1) (.slice ao2 n2 cap2)) := hs
  clear hb ht hl hs
  by_cases hlt : k < ps.length
  ·obtain ⟨b2, off, rfl, hb2, c0, c1, _⟩ := (HF.out.next HB3.out).at hlt
   have hbw' : b2 < w.heap.size := by
    obtain ⟨b', off', e, hb', _⟩ := HF.out.at hlt
    injection e with e
    injection e with e _ _
    omega
   have HD : Hid (drawR v (ps.take (k + 1)) = rstep (drawR v (ps.take k)) (ps[k]'hlt)) := by
    rw [List.take_succ_eq_append_getElem hlt, drawR_snoc]; rfl
   have hp := HI.out.2.1 _ (List.getElem_mem hlt)
   have hp0 := hp.2.1
   have hp1 := hp.2.2
   clear hp
   have hvv := drawR_v hv (ps := ps.take k) (HI.out.2.1.nn.take k)
   have hv0 := hvv.1
   have hv1 := hvv.2
   clear hvv
   have hlr := length_drawR v (ps.take k)
   have hll : (ps.take k).length ≤ 100 := by rw [List.length_take]; omega
   have hlT : (drawR v (ps.take k)).1.length ≤ 100 := by omega
   have hlL : (drawR v (ps.take k)).2.1.length ≤ 100 := by omega
   clear hlr hll
   obtain ⟨p, hp⟩ : ∃ p, ps[k]'hlt = p := ⟨_, rfl⟩
   rw [hp] at c0 c1 HD hp0 hp1
   clear hp
   obtain ⟨l, n⟩ := p
   simp only at c0 c1 hp0 hp1
   generalize drawR v (ps.take k) = S at *
   obtain ⟨T, L, V⟩ := S
   simp only at HT HL hlT hlL hv0 hv1
   have hsz := HB3.out.size
   by_cases hc : n ≤ V
   ·have HD2 : Hid (drawR v (ps.take (k + 1)) = (T ++ [(l, n)], L, V - n)) := by
     have e := HD.out
     simp only [rstep, if_pos hc] at e
     exact e
    go_wp2_with (at_builtin; refine wpList_append_pc _ rfl (.tmp 29) (.tmp 34) rfl w.heap.size (.slice ao1 n1 cap1) T rfl (HT.out.alloc _) wr.heap.size l n rfl (by go_simp) (by go_simp) (by omega) (by simp; omega) ?_; intro v' w1 ho hg hloc; have haf := after_append _ HB3.out HT.out HL.out HS.out hsz hg hloc; have c1' := old_cell HB3.out haf.1 hbw' c1)
    go_roundw
    case rel => exact ⟨k + 1, by omega, by go_num, by rw [HD2.out], by rw [HD2.out]; exact ho, by rw [HD2.out]; exact haf.2.1, haf.2.2, haf.1⟩
    case measure => simp [intOf]; omega
   ·have HD2 : Hid (drawR v (ps.take (k + 1)) = (T ++ [(l, V)], L ++ [(l, n - V)], 0)) := by
     have e := HD.out
     simp only [rstep, if_neg hc] at e
     exact e
    have hcd : decide (n ≤ V) = false := by simp; omega
    have k0 : (0 : Int) ≤ (k : Int) := Int.natCast_nonneg _
    have k1 : (k : Int) < (ps.length : Int) := by omega
    go_wp2_with (at_builtin; refine wpList_append_pc _ rfl (.tmp 43) (.tmp 51) rfl w.heap.size (.slice ao1 n1 cap1) T rfl (HT.out.alloc _) wr.heap.size l V rfl (by go_simp) (by go_simp) (by omega) (by simp; omega) ?_; intro v' w1 ho hg hloc; have haf := after_append _ HB3.out HT.out HL.out HS.out hsz hg hloc; have c0' := old_cell HB3.out haf.1 hbw' c0; have c1' := old_cell HB3.out haf.1 hbw' c1)
    have HO1 : Hid (Own w1 w.heap.size v' (T ++ [(l, V)])) := ho
    have HAF : Hid (Below w.heap.size w w1 ∧ Own w1 w.heap.size (.slice ao2 n2 cap2) L ∧ Sep v' (.slice ao2 n2 cap2)) := haf
    clear ho hg hloc haf c0 c1
    have hsz1 := HAF.out.1.size
    go_region_held3 (fun w' => w'.cell? ⟨b2, off + k * 2, none⟩ = some (.string l) ∧ w'.cell? ⟨b2, off + k * 2 + 1, none⟩ = some (.int .i64 n)) (first | go_keep | (go_split_ands; exact ⟨far_cell _ hsz1 HAF.out.2.1 hg5 hbw' c0', far_cell _ hsz1 HAF.out.2.1 hg5 hbw' c1'⟩))
     ((refine step_append_pc _ (by rfl) _ _ (by rfl) w.heap.size (.slice ao2 n2 cap2) L (by rfl) ((HAF.out.2.1.alloc _).drew) w1.heap.size l (IntKind.i64.wrap (n - V)) (by rfl) (new_drew _ _ _).1 (new_drew _ _ _).2 (by omega) (by simp; omega) ?_; intro gg cap5 w5 ho5 hg5 hloc5))
    have haf := after_drawn _ HAF.out.1 HAF.out.2.1 HO1.out HAF.out.2.2.symm hsz1 hg5 hloc5
    have HO5 : Hid (Own w5 w.heap.size (.slice (some ⟨gg, 0, none⟩) (L.length + 1) cap5) (L ++ [(l, n - V)])) := by
     rw [IntWalk.i64_left, IntWalk.wrap64_in (n - V) (by omega)] at ho5; exact ho5
    have HAF5 : Hid (Below w.heap.size w w5 ∧ Own w5 w.heap.size v' (T ++ [(l, V)]) ∧ Sep v' (.slice (some ⟨gg, 0, none⟩) (L.length + 1) cap5)) := ⟨haf.1, haf.2.1, haf.2.2.symm⟩
    clear haf ho5 hg5 hloc5 c0' c1'
    go_wp2
    go_roundw
    case rel => exact ⟨k + 1, by omega, by go_num, by rw [HD2.out], by rw [HD2.out]; exact HAF5.out.2.1, by rw [HD2.out]; exact HO5.out, HAF5.out.2.2, HAF5.out.1⟩
    case measure => simp [intOf]; omega
  ·have e : ps.take k = ps := List.take_of_length_le (by omega)
   rw [e] at HT HL ⊢
   clear e
   have HSZ : Hid ((∀ q ∈ (drawR v ps).1, q.1.size ≤ maxLen) ∧ (∀ q ∈ (drawR v ps).2.1, q.1.size ≤ maxLen)) := drawR_all (C := fun s => s.size ≤ maxLen) v HF.out.1
   have HTA : Hid (Tame (drawR v ps).1 ∧ Tame (drawR v ps).2.1) := tame_drawR hv HR.out
   have HE : Hid (drawS v ps = (plainL (drawR v ps).1, plainL (drawR v ps).2.1, (drawR v ps).2.2)) := (draw_same hv HI.out.2.1.nn).1
   generalize drawR v ps = S at *
   obtain ⟨T, L, V⟩ := S
   simp only at HT HL HSZ HTA HE ⊢
   have e1 : n1 = T.length := by obtain ⟨ax, cx, h⟩ := HT.out.shape; injection h
   have e2 : n2 = L.length := by obtain ⟨ax, cx, h⟩ := HL.out.shape; injection h
   subst e1 e2
   have HTF : Hid (Fl wr ao1 T) := HT.out.fl HSZ.out.1
   have HLF : Hid (Fl wr ao2 L) := HL.out.fl HSZ.out.2
   go_wp2_with fail
   refine (fluidPlain_any ao1 cap1 T wr HTF.out HTA.out.1).mono ?_
   rintro e w2 ⟨x, rfl, hx, hb⟩
   obtain ⟨ax, cx, rfl⟩ := hx.shape
   have HX : Hid (Own w2 wr.heap.size (.slice ax (plainL T).length cx) (plainL T)) := hx
   have HB4 : Hid (Below wr.heap.size wr w2) := hb
   clear hx hb
   go_wp2_with fail
   refine (fluidPlain_any ao2 cap2 L w2 (HLF.out.next HB4.out) HTA.out.2).mono ?_
   rintro e w3 ⟨y, rfl, hy, hb⟩
   obtain ⟨ay, cy, rfl⟩ := hy.shape
   have HX3 : Hid (Own w3 w.heap.size (.slice ax (plainL T).length cx) (plainL T)) := own_below (own_base HX.out HB3.out.size) hb
   have HY3 : Hid (Own w3 w.heap.size (.slice ay (plainL L).length cy) (plainL L)) := own_base hy (Nat.le_trans HB3.out.size HB4.out.size)
   have HB5 : Hid (Below w.heap.size w w3) := HB3.out.trans ((HB4.out.mono HB3.out.size).trans (hb.mono (Nat.le_trans HB3.out.size HB4.out.size)))
   clear hy hb
   go_wp2
   go_ret3
   exact ⟨.slice ax (plainL T).length cx, .slice ay (plainL L).length cy, rfl, by rw [HE.out]; exact HX3.out, by rw [HE.out]; exact HY3.out, HB5.out⟩
end Go.Proofs.YtfadmpnpgiceeaaGreat.F

/- workcellref: LabelSum walked. -/
namespace Go.Proofs.YtfadmpnpgiceeaaGreat.F
open Go.RowKit Go.Maps Go.WideMaps
open Go.RowKit Go.Maps Go.WideMaps
theorem ba_eq {a b : ByteArray} : (a.toList == b.toList) = decide (a.data.toList = b.data.toList) := by
 rw [ByteArray.toList_eq, ByteArray.toList_eq]
 by_cases h : a.data.toList = b.data.toList
 ·rw [h]; simp
 ·rw [beq_eq_false_iff_ne.2 h, decide_eq_false h]
theorem sumL_succ {ps : List Pc} {m : Nat} (h : m < ps.length) (l : List UInt8) : sumL (ps.take (m + 1)) l = sumL (ps.take m) l + if (ps[m]'h).1.data.toList = l then (ps[m]'h).2 else 0 := by
 rw [List.take_succ_eq_append_getElem h, sumL_snoc]
set_option maxHeartbeats 800000 in
theorem labelSum_any (ao : Option Addr) (cap : Nat) (ps : List Pc) (l : ByteArray) (w : World) (h : Fl w ao ps) (hr : fref ps = 0) :
  Calls Tryz.prog 46 #[.slice ao ps.length cap, .string l] w fun e w' => e = .returned (.int .i64 (sumL ps l.data.toList)) ∧ w' = w := by
 have HF : Hid (Fl w ao ps) := h
 have HI : Hid (ps.length ≤ 100 ∧ Fine ps ∧ tot ps ≤ 1000000000) := fref_in hr
 have hl := HI.out.1
 clear h hr
 go_enter Tryz.func46, Tryz.ntmps46
 go_wp2
 go_loop [5, 6] (fun s i => ∃ m : Nat, m ≤ ps.length ∧ i = .int .i64 m ∧ s = .int .i64 (sumL (ps.take m) l.data.toList)) (fun _ i => ps.length - (intOf i).toNat)
 case atStart => exact ⟨0, Nat.zero_le _, rfl, rfl⟩
 case round =>
  obtain ⟨m, hm, rfl, rfl⟩ := hrel
  have hsi := sumL_in (ps := ps.take m) (HI.out.2.1.nn.take m) l.data.toList
  have htk := tot_take_le HI.out.2.1.nn m
  have ht9 := HI.out.2.2
  have hs0 := hsi.1
  have hs1 : sumL (ps.take m) l.data.toList ≤ 1000000000 := by omega
  clear hsi htk ht9
  by_cases hlt2 : m < ps.length
  ·obtain ⟨b2, off, rfl, hb2, c0, c1, _⟩ := HF.out.at hlt2
   have HT : Hid (sumL (ps.take (m + 1)) l.data.toList = sumL (ps.take m) l.data.toList + if (ps[m]'hlt2).1.data.toList = l.data.toList then (ps[m]'hlt2).2 else 0) := sumL_succ hlt2 _
   have hv0 := (HI.out.2.1 _ (List.getElem_mem hlt2)).2.1
   have hv1 := (HI.out.2.1 _ (List.getElem_mem hlt2)).2.2
   generalize (ps[m]'hlt2).1 = l2 at *
   generalize (ps[m]'hlt2).2 = v at *
   generalize sumL (ps.take m) l.data.toList = S at *
   by_cases he : l2.data.toList = l.data.toList
   ·have hb : (l2.toList == l.toList) = true := by rw [ba_eq, decide_eq_true he]
    have HE : Hid (l2.data.toList = l.data.toList) := he
    clear he
    go_wp2
    go_round
    case rel => exact ⟨m + 1, by omega, by go_num, by rw [HT.out, if_pos HE.out]⟩
    case measure => simp [intOf]; omega
   ·have hb : (l2.toList == l.toList) = false := by rw [ba_eq, decide_eq_false he]
    have HE : Hid (l2.data.toList ≠ l.data.toList) := he
    clear he
    go_wp2
    go_round
    case rel => exact ⟨m + 1, by omega, by go_num, by rw [HT.out, if_neg HE.out, Int.add_zero]⟩
    case measure => simp [intOf]; omega
  ·go_wp2
   go_ret
   exact ⟨ret_int (by rw [List.take_of_length_le (by omega)]), rfl⟩
end Go.Proofs.YtfadmpnpgiceeaaGreat.F

/- workcellref: FluidSorted walked. -/
namespace Go.Proofs.YtfadmpnpgiceeaaGreat.F
open Go.RowKit Go.Maps Go.WideMaps
open Go.RowKit Go.Maps Go.WideMaps
def Part (f : List Pc) (m : Nat) (S : List Pc) : Prop := S.Pairwise (fun p q => lb p < lb q) ∧ ∀ p, p ∈ S ↔ (0 < p.2 ∧ p.2 = sumL f (lb p)) ∧ ∃ q ∈ f.take m, lb q = lb p
theorem part_zero (f : List Pc) : Part f 0 [] := ⟨List.Pairwise.nil, fun p => by simp⟩
theorem part_end {f S : List Pc} (hn : Nn f) {m : Nat} (hm : f.length ≤ m) (h : Part f m S) : Srt f S := by
 refine ⟨h.1, fun p => ?_⟩
 rw [h.2 p, List.take_of_length_le hm]
 constructor
 ·exact fun h => h.1
 ·intro h1
  refine ⟨h1, ?_⟩
  obtain ⟨q, hq, e, _⟩ := (sumL_pos hn (lb p)).1 (by omega)
  exact ⟨q, hq, e⟩
theorem mem_succ {f : List Pc} {m : Nat} (h : m < f.length) (l : List UInt8) : (∃ q ∈ f.take (m + 1), lb q = l) ↔ (∃ q ∈ f.take m, lb q = l) ∨ lb (f[m]'h) = l := by
 rw [List.take_succ_eq_append_getElem h]
 constructor
 ·rintro ⟨q, hq, e⟩
  rcases List.mem_append.1 hq with hq | hq
  ·exact .inl ⟨q, hq, e⟩
  ·simp at hq; subst hq; exact .inr e
 ·rintro (⟨q, hq, e⟩ | e)
  ·exact ⟨q, List.mem_append_left _ hq, e⟩
  ·exact ⟨_, List.mem_append_right _ (by simp), e⟩
theorem part_skip {f S : List Pc} {m : Nat} (h : m < f.length) (hP : Part f m S) (hs : sumL f (lb (f[m]'h)) = 0 ∨ ∃ q ∈ S, lb q = lb (f[m]'h)) : Part f (m + 1) S := by
 refine ⟨hP.1, fun p => ?_⟩
 rw [mem_succ h, hP.2 p]
 constructor
 ·rintro ⟨h1, h2⟩; exact ⟨h1, .inl h2⟩
 ·rintro ⟨h1, h2 | e⟩
  ·exact ⟨h1, h2⟩
  ·refine ⟨h1, ?_⟩
   rcases hs with hs | ⟨q, hq, e2⟩
   ·rw [e] at hs; omega
   ·obtain ⟨q', hq', e'⟩ := ((hP.2 q).1 hq).2
    exact ⟨q', hq', e'.trans (e2.trans e)⟩
def ahead (S : List Pc) (l : List UInt8) : List Pc := S.takeWhile fun q => decide (lb q < l)
def rest (S : List Pc) (l : List UInt8) : List Pc := S.dropWhile fun q => decide (lb q < l)
theorem ahead_rest (S : List Pc) (l : List UInt8) : S = ahead S l ++ rest S l := (List.takeWhile_append_dropWhile ..).symm
theorem ahead_lt {S : List Pc} {l : List UInt8} : ∀ q ∈ ahead S l, lb q < l := by
 intro q hq
 unfold ahead at hq
 induction S with
 | nil => simp at hq
 | cons a S ih =>
  rw [List.takeWhile_cons] at hq
  split at hq
  ·rename_i ha
   rcases List.mem_cons.1 hq with rfl | hq
   ·simpa using ha
   ·exact ih hq
  ·simp at hq
theorem rest_head {S : List Pc} {l : List UInt8} {b : Pc} {B : List Pc} (h : rest S l = b :: B) : ¬ lb b < l := by
 unfold rest at h
 induction S with
 | nil => simp at h
 | cons a S ih =>
  rw [List.dropWhile_cons] at h
  split at h
  ·exact ih h
  ·rename_i ha
   injection h with h1 _
   subst h1
   simpa using ha
theorem not_lt_ne {a b : List UInt8} (h : ¬ a < b) (hne : a ≠ b) : b < a :=
 Decidable.byContradiction fun hn => hne (List.le_antisymm (List.not_lt.1 hn) (List.not_lt.1 h))
theorem part_ins {f S : List Pc} {m : Nat} (h : m < f.length) (hP : Part f m S) (h0 : 0 < sumL f (lb (f[m]'h))) (hne : ∀ b B, rest S (lb (f[m]'h)) = b :: B → lb b ≠ lb (f[m]'h)) :
  Part f (m + 1) (ahead S (lb (f[m]'h)) ++ [((f[m]'h).1, sumL f (lb (f[m]'h)))] ++ rest S (lb (f[m]'h))) := by
 have hpw := hP.1
 rw [ahead_rest S (lb (f[m]'h))] at hpw
 obtain ⟨p1, p2, p3⟩ := List.pairwise_append.1 hpw
 have hB : ∀ b ∈ rest S (lb (f[m]'h)), lb (f[m]'h) < lb b := by
  intro b hb
  cases hr : rest S (lb (f[m]'h)) with
  | nil => rw [hr] at hb; cases hb
  | cons c B =>
   have hc := not_lt_ne (rest_head hr) (hne c B hr)
   rw [hr] at hb p2
   rcases List.mem_cons.1 hb with rfl | hb
   ·exact hc
   ·exact List.lt_trans hc ((List.pairwise_cons.1 p2).1 b hb)
 refine ⟨?_, fun p => ?_⟩
 ·rw [List.append_assoc]
  refine List.pairwise_append.2 ⟨p1, ?_, ?_⟩
  ·rw [List.singleton_append]
   exact List.pairwise_cons.2 ⟨fun b hb => hB b hb, p2⟩
  ·intro a ha b hb
   rcases List.mem_append.1 hb with hb | hb
   ·simp at hb; subst hb; exact ahead_lt a ha
   ·exact p3 a ha b hb
 ·have hmem : p ∈ ahead S (lb (f[m]'h)) ++ [((f[m]'h).1, sumL f (lb (f[m]'h)))] ++ rest S (lb (f[m]'h)) ↔ p ∈ S ∨ p = ((f[m]'h).1, sumL f (lb (f[m]'h))) := by
   conv => rhs; rw [ahead_rest S (lb (f[m]'h))]
   simp only [List.mem_append, List.mem_singleton]
   constructor
   ·rintro ((h | h) | h)
    ·exact .inl (.inl h)
    ·exact .inr h
    ·exact .inl (.inr h)
   ·rintro ((h | h) | h)
    ·exact .inl (.inl h)
    ·exact .inr h
    ·exact .inl (.inr h)
  rw [hmem, hP.2 p, mem_succ h]
  constructor
  ·rintro (⟨h1, h2⟩ | e)
   ·exact ⟨h1, .inl h2⟩
   ·subst e; exact ⟨⟨h0, rfl⟩, .inr rfl⟩
  ·rintro ⟨h1, h2 | e⟩
   ·exact .inl ⟨h1, h2⟩
   ·right
    obtain ⟨s, n⟩ := p
    have e2 : (f[m]'h).1 = s := ByteArray.ext (Array.ext' e)
    have e3 : n = sumL f (lb (f[m]'h)) := by rw [e]; exact h1.2
    rw [e3, ← e2]
open Go.RowKit Go.Maps Go.WideMaps
theorem bl_eq : ∀ (x y : List UInt8), Op.bytesLess x y = decide (x < y)
 | [], [] => by simp [Op.bytesLess]
 | _ :: _, [] => by simp [Op.bytesLess]
 | [], _ :: _ => by simp [Op.bytesLess]
 | a :: x, b :: y => by
  rw [Op.bytesLess, bl_eq x y]
  simp only [List.cons_lt_cons_iff]
  by_cases h1 : a < b <;> by_cases h2 : a = b <;> by_cases h3 : x < y <;> simp [h1, h2, h3]
theorem less_eq (a b : ByteArray) : Op.bytesLess a.toList b.toList = decide (a.data.toList < b.data.toList) := by
 rw [ByteArray.toList_eq, ByteArray.toList_eq, bl_eq]
theorem wpList_append_n (w : World) {ops : Array Oper} {rest : List Oper} {o : Oper} {a : Act} {Q : Exit → Act → World → Prop} (hgd : o.guard = none) (s x : Operand)
  (ho : o.op = .call { callee := .builtin .append, args := #[s, x], argTypes := #[24, 24] }) (base : Nat) (v : Value) (ps : List Pc) (hs : a.eval s = v) (hown : Own w base v ps)
  (ao : Option Addr) (n c : Nat) (qs : List Pc) (hx : a.eval x = .slice ao n c) (hn : n = qs.length) (hq : Fl w ao qs) (hc : ao ≠ none)
  (hlen : (ps.length + qs.length) * 24 ≤ 140737488355328) (hbase : base ≤ w.heap.size)
  (h : ∀ v' w', Own w' base v' (ps ++ qs) → w.grownBy w' v.ownBlock → Loc w v v' → wpList Tryz.prog ops Q rest (a.put o.dst v') w') :
  wpList Tryz.prog ops Q (o :: rest) a w := by
 subst hn
 exact wpList_append_any w hgd s x ho base v ps hs hown ao c qs hx hq (fun e => absurd e hc) hlen hbase h
theorem Fl.cut {w : World} {b off : Nat} {S A R : List Pc} (h : Fl w (some ⟨b, off, none⟩) S) (e : S = A ++ R) : Fl w (some ⟨b, off, none⟩) A ∧ Fl w (some ⟨b, off + A.length * 2, none⟩) R := by
 subst e
 obtain ⟨hs, hc⟩ := h
 rcases hc with h0 | ⟨b', off', e, hb, hc⟩
 ·obtain ⟨rfl, rfl⟩ := List.append_eq_nil_iff.1 h0
  exact ⟨Fl.nil _ _, Fl.nil _ _⟩
 ·injection e with e
  injection e with e1 e2 _
  subst e1 e2
  refine ⟨⟨fun p hp => hs p (List.mem_append_left _ hp), .inr ⟨b, off, rfl, hb, fun k hk => ?_⟩⟩, ⟨fun p hp => hs p (List.mem_append_right _ hp), .inr ⟨b, _, rfl, hb, fun k hk => ?_⟩⟩⟩
  ·have := hc k (by rw [List.length_append]; omega)
   rw [List.getElem_append_left hk] at this
   exact this
  ·have := hc (A.length + k) (by rw [List.length_append]; omega)
   rw [List.getElem_append_right (by omega)] at this
   simp only [Nat.add_sub_cancel_left] at this
   rw [show off + (A.length + k) * 2 = off + A.length * 2 + k * 2 by omega] at this
   exact this
theorem own_cap {w : World} {base n cap : Nat} {ao : Option Addr} {S : List Pc} (h : Own w base (.slice ao n cap) S) (h0 : 0 < S.length) : S.length ≤ cap ∧ cap ≤ 9223372036854775807 := by
 rcases h.2 with ⟨_, h2⟩ | ⟨g, cap', cur, h1, _, _, h4, h5, _⟩
 ·omega
 ·injection h1 with _ _ e3
  subst e3
  unfold maxLen at h5
  exact ⟨h4, by omega⟩
set_option maxRecDepth 100000 in
set_option maxHeartbeats 6400000 in
theorem fluidSorted_any (ao : Option Addr) (cap : Nat) (ps : List Pc) (w : World) (h : Fl w ao ps) (hr : fref ps = 0) :
  Calls Tryz.prog 49 #[.slice ao ps.length cap] w fun e w' => ∃ v S, e = .returned v ∧ Srt ps S ∧ Own w' w.heap.size v S ∧ Below w.heap.size w w' := by
 have HF : Hid (Fl w ao ps) := h
 have HR : Hid (fref ps = 0) := hr
 have HI : Hid (ps.length ≤ 100 ∧ Fine ps ∧ tot ps ≤ 1000000000) := fref_in hr
 have hl := HI.out.1
 clear h hr
 go_enter Tryz.func49, Tryz.ntmps49
 go_wp2
 go_loopw [3, 4] (fun v i wr => ∃ (m : Nat) (S : List Pc), m ≤ ps.length ∧ i = .int .i64 m ∧ Part ps m S ∧ S.length ≤ m ∧ (S = [] → v = .slice none 0 0) ∧ Own wr w.heap.size v S ∧ Below w.heap.size w wr) (fun _ i _ => ps.length - (intOf i).toNat)
 case atStart => exact ⟨0, [], Nat.zero_le _, rfl, part_zero _, Nat.le_refl _, fun _ => rfl, Own.nil _ _, brf⟩
 case round =>
  obtain ⟨m, S, hm, rfl, hP, hSl, hnil, hown, hb⟩ := hrel
  obtain ⟨w1, rfl⟩ : ∃ w1, w1 = wr := ⟨_, rfl⟩
  obtain ⟨a1, c1, rfl⟩ := hown.shape
  have HP : Hid (Part ps m S) := hP
  have HN : Hid (S = [] → (Value.slice a1 S.length c1) = .slice none 0 0) := hnil
  have HO : Hid (Own w1 w.heap.size (.slice a1 S.length c1) S) := hown
  have HB : Hid (Below w.heap.size w w1) := hb
  clear hP hnil hown hb
  by_cases hlt : m < ps.length
  ·obtain ⟨b2, off, rfl, hb2, c0, c1', hsz⟩ := (HF.out.next HB.out).at hlt
   have hb2w : b2 < w.heap.size := by
    obtain ⟨b', off', e, hb', _⟩ := HF.out.at hlt
    injection e with e
    injection e with e _ _
    omega
   have HSS : Hid (sumL ps (lb (ps[m]'hlt)) = 0 ∨ (∃ q ∈ S, lb q = lb (ps[m]'hlt)) → Part ps (m + 1) S) := part_skip hlt HP.out
   have HIn : Hid (0 < sumL ps (lb (ps[m]'hlt)) → (∀ b B, rest S (lb (ps[m]'hlt)) = b :: B → lb b ≠ lb (ps[m]'hlt)) → Part ps (m + 1) (ahead S (lb (ps[m]'hlt)) ++ [((ps[m]'hlt).1, sumL ps (lb (ps[m]'hlt)))] ++ rest S (lb (ps[m]'hlt)))) := part_ins hlt HP.out
   have hs0 := (sumL_in HI.out.2.1.nn (lb (ps[m]'hlt))).1
   have hs1 : sumL ps (lb (ps[m]'hlt)) ≤ 1000000000 := by have := (sumL_in HI.out.2.1.nn (lb (ps[m]'hlt))).2; have := HI.out.2.2; omega
   obtain ⟨p, hp⟩ : ∃ p, ps[m]'hlt = p := ⟨_, rfl⟩
   rw [hp] at c0 c1' HSS HIn hsz hs0 hs1
   clear hp
   obtain ⟨l, v⟩ := p
   simp only [lb] at c0 c1' HSS HIn hsz hs0 hs1
   have HSz : Hid (∀ q ∈ S, q.1.size ≤ maxLen) := fun q hq => by
    obtain ⟨q', hq', e⟩ := ((HP.out.2 q).1 hq).2
    have e2 : q'.1 = q.1 := ByteArray.ext (Array.ext' e)
    rw [← e2]; exact fine_size HR.out q' (List.mem_of_mem_take hq')
   have HFS : Hid (Fl w1 a1 S) := HO.out.fl HSz.out
   have HAR : Hid (S = ahead S l.data.toList ++ rest S l.data.toList) := ahead_rest S _
   have HAL : Hid (∀ q ∈ ahead S l.data.toList, lb q < l.data.toList) := ahead_lt
   have HRH : Hid (∀ b B, rest S l.data.toList = b :: B → ¬ lb b < l.data.toList) := fun b B h => rest_head h
   generalize ahead S l.data.toList = A at *
   generalize rest S l.data.toList = R at *
   have hAl : A.length ≤ S.length := by have := congrArg List.length HAR.out; rw [List.length_append] at this; omega
   go_wp2
   go_loopw [5] (fun kk wr => ∃ j : Nat, j ≤ A.length ∧ kk = .int .i64 j ∧ ∃ n, wr = w1.drewN n) (fun kk _ => A.length - (intOf kk).toNat)
   case atStart => exact ⟨0, Nat.zero_le _, rfl, 0, rfl⟩
   case round =>
    obtain ⟨j, hj, rfl, n1, rfl⟩ := hrel
    by_cases hjA : j < A.length
    ·have hjS : j < S.length := by omega
     obtain ⟨b3, off3, rfl, hb3, d0, d1, _⟩ := HFS.out.at hjS
     have hless : lb (S[j]'hjS) < l.data.toList := by
      have e : S[j]'hjS = A[j]'hjA := by
       have h1 : S[j]? = (A ++ R)[j]? := by rw [← HAR.out]
       rw [List.getElem?_append_left hjA, List.getElem?_eq_getElem hjS, List.getElem?_eq_getElem hjA] at h1
       simpa using h1
      rw [e]; exact HAL.out _ (List.getElem_mem hjA)
     obtain ⟨q, hq⟩ : ∃ q, S[j]'hjS = q := ⟨_, rfl⟩
     rw [hq] at d0 d1 hless
     clear hq
     obtain ⟨ql, qn⟩ := q
     simp only [lb] at d0 d1 hless
     have hbl : Op.bytesLess ql.toList l.toList = true := by rw [less_eq, decide_eq_true hless]
     have hjd : decide (j < S.length) = true := by simp [hjS]
     clear hless
     go_wp2
     go_big_quiet (fail)
     go_wp2
     go_roundw
     case rel => exact ⟨j + 1, by omega, by go_num, n1 + nq, by simp⟩
     case measure => simp [intOf]; omega
    ·obtain rfl : j = A.length := by omega
     clear hj hjA
     have hws := HB.out.size
     cases hRR : R with
     | nil =>
      rw [hRR] at HAR HRH HIn
      clear hRR
      have hSA : A = S := by have := HAR.out; rw [List.append_nil] at this; exact this.symm
      subst hSA
      have hjd : decide (A.length < A.length) = false := by simp
      by_cases hsum : sumL ps l.data.toList = 0
      ·have HP2 : Hid (Part ps (m + 1) A) := HSS.out (.inl hsum)
       have hz : (sumL ps l.data.toList == 0) = true := by simp [hsum]
       clear hsum
       go_wp2
       go_big_quiet (fail)
       go_wp2_with fail
       refine (labelSum_any (some ⟨b2, off, none⟩) cap ps l (w1.drewN (n1 + nq)) (HF.out.next (below_drewN HB.out _)) HR.out).mono ?_
       rintro e w6 ⟨rfl, hw6⟩
       obtain ⟨hOx, hBx, hFx, c0x⟩ : Own w6 w.heap.size (.slice a1 A.length c1) A ∧ Below w.heap.size w w6 ∧ Fl w6 a1 A ∧ w6.cell? ⟨b2, off + m * 2, none⟩ = some (.string l) := by
        subst hw6; exact ⟨HO.out, below_drewN HB.out _, HFS.out, c0⟩
       have HOx : Hid (Own w6 w.heap.size (.slice a1 A.length c1) A) := hOx
       have HBx : Hid (Below w.heap.size w w6) := hBx
       have HFx : Hid (Fl w6 a1 A) := hFx
       clear hw6 hOx hBx hFx c0 c1' hjd
       go_wp2
       go_big_quiet (fail)
       go_wp2
       go_roundw
       case rel => exact ⟨m + 1, A, by omega, by go_num, HP2.out, by omega, HN.out, HOx.out.drewN nq, below_drewN HBx.out nq⟩
       case measure => simp [intOf]; omega
      ·have hz : (sumL ps l.data.toList == 0) = false := by simp [hsum]
       have HP2 : Hid (Part ps (m + 1) (A ++ [(l, sumL ps l.data.toList)] ++ [])) := HIn.out (by omega) (fun b B h => by cases h)
       clear hsum
       by_cases hA : A = []
       ·have hv := HN.out hA
        rw [hA] at hv
        injection hv with e1 _ e3
        subst e1 e3
        subst hA
        simp only [List.length_nil] at HO hSl hAl ⊢
        have hjd : decide (0 < 0) = false := by simp
        go_wp2
        go_big_quiet (fail)
        go_wp2_with fail
        refine (labelSum_any (some ⟨b2, off, none⟩) cap ps l (w1.drewN (n1 + nq)) (HF.out.next (below_drewN HB.out _)) HR.out).mono ?_
        rintro e w6 ⟨rfl, hw6⟩
        obtain ⟨hOx, hBx, hFx, c0x⟩ : Own w6 w.heap.size (.slice none 0 0) ([] : List Pc) ∧ Below w.heap.size w w6 ∧ Fl w6 none ([] : List Pc) ∧ w6.cell? ⟨b2, off + m * 2, none⟩ = some (.string l) := by
         subst hw6; exact ⟨HO.out, below_drewN HB.out _, HFS.out, c0⟩
        have HOx : Hid (Own w6 w.heap.size (.slice none 0 0) ([] : List Pc)) := hOx
        have HBx : Hid (Below w.heap.size w w6) := hBx
        have HFx : Hid (Fl w6 none ([] : List Pc)) := hFx
        clear hw6 hOx hBx hFx c0 c1' hjd
        go_wp2
        go_big_quiet (fail)
        obtain ⟨wy, hwy⟩ : ∃ wy, w6.drewN nq = wy := ⟨_, rfl⟩
        rw [hwy]
        have HBy : Hid (Below w.heap.size w wy) := by rw [← hwy]; exact below_drewN HBx.out nq
        have HFy : Hid (Fl wy none ([] : List Pc)) := by rw [← hwy]; exact HFx.out
        have c0y : wy.cell? ⟨b2, off + m * 2, none⟩ = some (.string l) := by rw [← hwy]; exact c0x
        clear hwy c0x
        have hwys := HBy.out.size
        generalize sumL ps l.data.toList = N at *
        go_wp2_with (first | (at_builtin; refine wpList_append_pc _ rfl (.tmp 66) (.tmp 74) rfl w.heap.size (.slice none 0 0) [] rfl (Own.nil _ _) wy.heap.size l N rfl (by go_simp) (by go_simp) (by simp) (by simp; omega) ?_; intro v1 w7 ho7 hg7 hloc7; have hb7 : Below w.heap.size w w7 := (HBy.out.alloc hwys _).grown hg7 (by simp; omega) (fun k hk => by cases hk)) | (at_builtin; refine wpList_append_any _ rfl (.tmp 76) (.tmp 79) rfl w.heap.size v1 ([] ++ [(l, N)]) rfl ho7 none 0 [] rfl (Fl.nil _ _) (fun _ => rfl) (by simp) hb7.size ?_; intro v2 w8 ho8 hg8 hloc8))
        have HBz : Hid (Below w.heap.size w w8) := below_grown hb7 ho7 hg8 hb7.size
        have HO8 : Hid (Own w8 w.heap.size v2 (([] ++ [(l, N)]) ++ [])) := ho8
        clear ho7 hg7 hloc7 ho8 hg8 hloc8
        go_wp2
        go_roundw
        case rel => exact ⟨m + 1, (([] ++ [(l, N)]) ++ []), by omega, by go_num, HP2.out, by simp, fun h => absurd h (by simp), HO8.out, HBz.out⟩
        case measure => simp [intOf]; omega
       ·have hA0 : 0 < A.length := List.length_pos_iff.2 hA
        clear hA
        obtain ⟨b3, off3, rfl, hb3, _, _, _⟩ := HFS.out.at hA0
        have hcap : A.length ≤ c1 ∧ c1 ≤ 9223372036854775807 := own_cap HO.out hA0
        have hcap1 := hcap.1
        have hcap2 := hcap.2
        clear hcap
        go_wp2
        go_big_quiet (fail)
        go_wp2_with fail
        refine (labelSum_any (some ⟨b2, off, none⟩) cap ps l (w1.drewN (n1 + nq)) (HF.out.next (below_drewN HB.out _)) HR.out).mono ?_
        rintro e w6 ⟨rfl, hw6⟩
        obtain ⟨hOx, hBx, hFx, c0x⟩ : Own w6 w.heap.size (.slice (some ⟨b3, off3, none⟩) A.length c1) A ∧ Below w.heap.size w w6 ∧ Fl w6 (some ⟨b3, off3, none⟩) A ∧ w6.cell? ⟨b2, off + m * 2, none⟩ = some (.string l) := by
         subst hw6; exact ⟨HO.out, below_drewN HB.out _, HFS.out, c0⟩
        have HOx : Hid (Own w6 w.heap.size (.slice (some ⟨b3, off3, none⟩) A.length c1) A) := hOx
        have HBx : Hid (Below w.heap.size w w6) := hBx
        have HFx : Hid (Fl w6 (some ⟨b3, off3, none⟩) A) := hFx
        clear hw6 hOx hBx hFx c0 c1' hjd
        go_wp2
        go_big_quiet (fail)
        obtain ⟨wy, hwy⟩ : ∃ wy, w6.drewN nq = wy := ⟨_, rfl⟩
        rw [hwy]
        have HBy : Hid (Below w.heap.size w wy) := by rw [← hwy]; exact below_drewN HBx.out nq
        have HFy : Hid (Fl wy (some ⟨b3, off3, none⟩) A) := by rw [← hwy]; exact HFx.out
        have c0y : wy.cell? ⟨b2, off + m * 2, none⟩ = some (.string l) := by rw [← hwy]; exact c0x
        clear hwy c0x
        have hwys := HBy.out.size
        generalize sumL ps l.data.toList = N at *
        go_wp2_with (first | (at_builtin; refine wpList_append_n _ rfl (.tmp 61) (.tmp 64) rfl wy.heap.size (.slice none 0 0) [] rfl (Own.nil _ _) (some ⟨b3, off3, none⟩) A.length c1 A rfl rfl HFy.out (by simp) (by simp; omega) (Nat.le_refl _) ?_; intro v0 w5 ho5 hg5 hloc5; have hb5 : Below wy.heap.size wy w5 := (brf).grown hg5 (Nat.le_refl _) (fun k hk => by cases hk); have c0z : w5.cell? ⟨b2, off + m * 2, none⟩ = some (.string l) := (hb5.cell (p := ⟨b2, off + m * 2, none⟩) (by simp only; omega)).trans c0y) | (at_builtin; refine wpList_append_pc _ rfl (.tmp 66) (.tmp 74) rfl wy.heap.size v0 ([] ++ A) rfl (ho5.alloc _) w5.heap.size l N rfl (by go_simp) (by go_simp) (by simp; omega) (by have := hb5.size; simp; omega) ?_; intro v1 w7 ho7 hg7 hloc7; have hb7 : Below wy.heap.size wy w7 := below_grown (hb5.alloc hb5.size _) (ho5.alloc _) hg7 (by have := hb5.size; simp; omega)) | (at_builtin; refine wpList_append_n _ rfl (.tmp 76) (.tmp 79) rfl wy.heap.size v1 (([] ++ A) ++ [(l, N)]) rfl ho7 _ _ _ [] rfl (by simp) (Fl.nil _ _) (by split <;> simp) (by simp; omega) hb7.size ?_; intro v2 w8 ho8 hg8 hloc8))
        have HBz : Hid (Below w.heap.size w w8) := HBy.out.trans ((below_grown hb7 ho7 hg8 hb7.size).mono hwys)
        have HO8 : Hid (Own w8 w.heap.size v2 ((([] ++ A) ++ [(l, N)]) ++ [])) := own_base ho8 hwys
        clear ho5 hg5 hloc5 ho7 hg7 hloc7 ho8 hg8 hloc8
        go_wp2
        go_roundw
        case rel => exact ⟨m + 1, ((([] ++ A) ++ [(l, N)]) ++ []), by omega, by go_num, HP2.out, by simp; omega, fun h => absurd h (by simp), HO8.out, HBz.out⟩
        case measure => simp [intOf]; omega
     | cons r R' =>
      rw [hRR] at HAR HRH HIn
      clear hRR
      have hSlen : S.length = A.length + (R'.length + 1) := by have := congrArg List.length HAR.out; rw [List.length_append, List.length_cons] at this; exact this
      have hAS : A.length < S.length := by omega
      obtain ⟨b3, off3, rfl, hb3, d0, d1, _⟩ := HFS.out.at hAS
      have er : S[A.length]'hAS = r := by
       have h1 : S[A.length]? = (A ++ r :: R')[A.length]? := by rw [← HAR.out]
       rw [List.getElem?_append_right (Nat.le_refl _), Nat.sub_self, List.getElem?_eq_getElem hAS] at h1
       simpa using h1
      have hmem : r ∈ S := by rw [← er]; exact List.getElem_mem hAS
      rw [er] at d0 d1
      clear er
      have hnl : ¬ lb r < l.data.toList := HRH.out r R' rfl
      obtain ⟨rl, rn⟩ := r
      simp only [lb] at d0 d1 hnl
      have hbl : Op.bytesLess rl.toList l.toList = false := by rw [less_eq, decide_eq_false hnl]
      have hjd : decide (A.length < S.length) = true := by simp [hAS]
      have hjd0 : decide (A.length < S.length) = true := hjd
      have hcap : S.length ≤ c1 ∧ c1 ≤ 9223372036854775807 := own_cap HO.out (by omega)
      have hcap1 := hcap.1
      have hcap2 := hcap.2
      have HSL : Hid (S.length = A.length + (R'.length + 1)) := hSlen
      clear hcap hnl hSlen
      by_cases hsum : sumL ps l.data.toList = 0
      ·have HP2 : Hid (Part ps (m + 1) S) := HSS.out (.inl hsum)
       have hz : (sumL ps l.data.toList == 0) = true := by simp [hsum]
       clear hsum
       go_wp2
       go_big_quiet (fail)
       go_wp2_with fail
       refine (labelSum_any (some ⟨b2, off, none⟩) cap ps l (w1.drewN (n1 + nq)) (HF.out.next (below_drewN HB.out _)) HR.out).mono ?_
       rintro e w6 ⟨rfl, hw6⟩
       obtain ⟨hOx, hBx, hFx, c0x⟩ : Own w6 w.heap.size (.slice (some ⟨b3, off3, none⟩) S.length c1) S ∧ Below w.heap.size w w6 ∧ Fl w6 (some ⟨b3, off3, none⟩) S ∧ w6.cell? ⟨b2, off + m * 2, none⟩ = some (.string l) := by
        subst hw6; exact ⟨HO.out, below_drewN HB.out _, HFS.out, c0⟩
       have HOx : Hid (Own w6 w.heap.size (.slice (some ⟨b3, off3, none⟩) S.length c1) S) := hOx
       have HBx : Hid (Below w.heap.size w w6) := hBx
       have HFx : Hid (Fl w6 (some ⟨b3, off3, none⟩) S) := hFx
       have d0x : w6.cell? ⟨b3, off3 + A.length * 2, none⟩ = some (.string rl) := by subst hw6; exact d0
       clear hw6 hOx hBx hFx c0 c1' hjd d0 d1
       go_wp2
       go_big_quiet (fail)
       go_wp2
       go_roundw
       case rel => exact ⟨m + 1, S, by omega, by go_num, HP2.out, by omega, HN.out, HOx.out.drewN nq, below_drewN HBx.out nq⟩
       case measure => simp [intOf]; omega
      ·have hz : (sumL ps l.data.toList == 0) = false := by simp [hsum]
       by_cases hrl : rl.data.toList = l.data.toList
       ·have HP2 : Hid (Part ps (m + 1) S) := HSS.out (.inr ⟨_, hmem, hrl⟩)
        have hbe : (rl.toList == l.toList) = true := by rw [ba_eq, decide_eq_true hrl]
        clear hsum hrl hmem
        go_wp2
        go_big_quiet (fail)
        go_wp2_with fail
        refine (labelSum_any (some ⟨b2, off, none⟩) cap ps l (w1.drewN (n1 + nq)) (HF.out.next (below_drewN HB.out _)) HR.out).mono ?_
        rintro e w6 ⟨rfl, hw6⟩
        obtain ⟨hOx, hBx, hFx, c0x⟩ : Own w6 w.heap.size (.slice (some ⟨b3, off3, none⟩) S.length c1) S ∧ Below w.heap.size w w6 ∧ Fl w6 (some ⟨b3, off3, none⟩) S ∧ w6.cell? ⟨b2, off + m * 2, none⟩ = some (.string l) := by
         subst hw6; exact ⟨HO.out, below_drewN HB.out _, HFS.out, c0⟩
        have HOx : Hid (Own w6 w.heap.size (.slice (some ⟨b3, off3, none⟩) S.length c1) S) := hOx
        have HBx : Hid (Below w.heap.size w w6) := hBx
        have HFx : Hid (Fl w6 (some ⟨b3, off3, none⟩) S) := hFx
        have d0x : w6.cell? ⟨b3, off3 + A.length * 2, none⟩ = some (.string rl) := by subst hw6; exact d0
        clear hw6 hOx hBx hFx c0 c1' hjd d0 d1
        go_wp2
        go_big_quiet (fail)
        go_wp2
        go_roundw
        case rel => exact ⟨m + 1, S, by omega, by go_num, HP2.out, by omega, HN.out, HOx.out.drewN nq, below_drewN HBx.out nq⟩
        case measure => simp [intOf]; omega
       ·have HP2 : Hid (Part ps (m + 1) (A ++ [(l, sumL ps l.data.toList)] ++ (rl, rn) :: R')) := HIn.out (by omega) (fun b B h => by injection h with h1 _; rw [← h1]; exact hrl)
        have hbe : (rl.toList == l.toList) = false := by rw [ba_eq, decide_eq_false hrl]
        clear hsum hrl hmem
        have hcne : ¬ c1 = A.length := by omega
        go_wp2
        go_big_quiet (fail)
        go_wp2_with fail
        refine (labelSum_any (some ⟨b2, off, none⟩) cap ps l (w1.drewN (n1 + nq)) (HF.out.next (below_drewN HB.out _)) HR.out).mono ?_
        rintro e w6 ⟨rfl, hw6⟩
        obtain ⟨hOx, hBx, hFx, c0x⟩ : Own w6 w.heap.size (.slice (some ⟨b3, off3, none⟩) S.length c1) S ∧ Below w.heap.size w w6 ∧ Fl w6 (some ⟨b3, off3, none⟩) S ∧ w6.cell? ⟨b2, off + m * 2, none⟩ = some (.string l) := by
         subst hw6; exact ⟨HO.out, below_drewN HB.out _, HFS.out, c0⟩
        have HOx : Hid (Own w6 w.heap.size (.slice (some ⟨b3, off3, none⟩) S.length c1) S) := hOx
        have HBx : Hid (Below w.heap.size w w6) := hBx
        have HFx : Hid (Fl w6 (some ⟨b3, off3, none⟩) S) := hFx
        have d0x : w6.cell? ⟨b3, off3 + A.length * 2, none⟩ = some (.string rl) := by subst hw6; exact d0
        clear hw6 hOx hBx hFx c0 c1' hjd d0 d1
        go_wp2
        go_big_quiet (fail)
        obtain ⟨wy, hwy⟩ : ∃ wy, w6.drewN nq = wy := ⟨_, rfl⟩
        rw [hwy]
        have HBy : Hid (Below w.heap.size w wy) := by rw [← hwy]; exact below_drewN HBx.out nq
        have HFy : Hid (Fl wy (some ⟨b3, off3, none⟩) S) := by rw [← hwy]; exact HFx.out
        have c0y : wy.cell? ⟨b2, off + m * 2, none⟩ = some (.string l) := by rw [← hwy]; exact c0x
        clear hwy c0x
        have hwys := HBy.out.size
        generalize sumL ps l.data.toList = N at *
        have HCut : Hid (Fl wy (some ⟨b3, off3, none⟩) A ∧ Fl wy (some ⟨b3, off3 + A.length * 2, none⟩) ((rl, rn) :: R')) := HFy.out.cut HAR.out
        clear d0x
        have hRl : R'.length ≤ 100 := by have := HSL.out; omega
        go_wp2_with (first | (at_builtin; refine wpList_append_n _ rfl (.tmp 61) (.tmp 64) rfl wy.heap.size (.slice none 0 0) [] rfl (Own.nil _ _) (some ⟨b3, off3, none⟩) A.length c1 A rfl rfl HCut.out.1 (by simp) (by simp; omega) (Nat.le_refl _) ?_; intro v0 w5 ho5 hg5 hloc5; have hb5 : Below wy.heap.size wy w5 := (brf).grown hg5 (Nat.le_refl _) (fun k hk => by cases hk); have c0z : w5.cell? ⟨b2, off + m * 2, none⟩ = some (.string l) := (hb5.cell (p := ⟨b2, off + m * 2, none⟩) (by simp only; omega)).trans c0y) | (at_builtin; refine wpList_append_pc _ rfl (.tmp 66) (.tmp 74) rfl wy.heap.size v0 ([] ++ A) rfl (ho5.alloc _) w5.heap.size l N rfl (by go_simp) (by go_simp) (by simp; omega) (by have := hb5.size; simp; omega) ?_; intro v1 w7 ho7 hg7 hloc7; have hb7 : Below wy.heap.size wy w7 := below_grown (hb5.alloc hb5.size _) (ho5.alloc _) hg7 (by have := hb5.size; simp; omega)) | (at_builtin; refine wpList_append_n _ rfl (.tmp 76) (.tmp 79) rfl wy.heap.size v1 (([] ++ A) ++ [(l, N)]) rfl ho7 (some ⟨b3, off3 + A.length * 2, none⟩) _ _ ((rl, rn) :: R') rfl (by have := HSL.out; simp; omega) (HCut.out.2.next hb7) (by simp) (by simp; omega) hb7.size ?_; intro v2 w8 ho8 hg8 hloc8))
        have HBz : Hid (Below w.heap.size w w8) := HBy.out.trans ((below_grown hb7 ho7 hg8 hb7.size).mono hwys)
        have HO8 : Hid (Own w8 w.heap.size v2 ((([] ++ A) ++ [(l, N)]) ++ (rl, rn) :: R')) := own_base ho8 hwys
        clear ho5 hg5 hloc5 ho7 hg7 hloc7 ho8 hg8 hloc8
        go_wp2
        go_roundw
        case rel => exact ⟨m + 1, ((([] ++ A) ++ [(l, N)]) ++ (rl, rn) :: R'), by omega, by go_num, HP2.out, by have := HSL.out; simp; omega, fun h => absurd h (by simp), HO8.out, HBz.out⟩
        case measure => simp [intOf]; omega
  ·go_wp2
   go_ret
   exact ⟨.slice a1 S.length c1, S, rfl, part_end HI.out.2.1.nn (by omega) HP.out, HO.out, HB.out⟩
end Go.Proofs.YtfadmpnpgiceeaaGreat.F

/- workcellref: plainForm walked. -/
namespace Go.Proofs.YtfadmpnpgiceeaaGreat
open Go.RowKit Go.Maps
theorem tame_of {f : List F.Pc} (h : F.fref f = 0) : F.Tame f := by
 obtain ⟨h1, h2, h3⟩ := F.fref_in h
 exact ⟨h2.nn, by omega, by omega⟩
set_option maxHeartbeats 1600000 in
theorem plainForm_any (ao : Option Addr) (cap : Nat) (f : List F.Pc) (m : Int) (w : World) (h : F.Fl w ao f) (hl : f.length ≤ 1000000000) :
  Calls Tryz.prog 32 #[.slice ao f.length cap, .int .i64 m] w fun e w' => e = .returned (.bool (mayHold f m)) ∧ Below w.heap.size w w' := by
 have HF : Hid (F.Fl w ao f) := h
 have HMH : Hid (mayHold f m = (decide (F.fref f = 0) && decide (F.plainL f = f) && decide (F.tot f ≤ m))) := rfl
 have HFM := (show Hid _ from F.fluidMay_any ao cap f w h (by omega))
 clear h
 by_cases hr : F.fref f = 0
 ·have HR : Hid (F.fref f = 0) := hr
  rw [hr] at HFM
  have hl1 := (F.fref_in hr).1
  clear hr
  go_enter Tryz.func32, Tryz.ntmps32
  go_wp2_with fail
  refine Calls.mono HFM.out ?_
  rintro e w1 ⟨rfl, hw1⟩
  have hw2 := hw1.symm
  clear hw1
  subst hw2
  go_wp2_with fail
  refine (F.fluidPlain_any ao cap f w HF.out (tame_of HR.out)).mono ?_
  rintro e w1 ⟨v, rfl, ho, hb⟩
  obtain ⟨aoP, capP, rfl, hfp⟩ := F.Own.give ho (plain_sizes HR.out)
  have HB1 : Hid (Below w.heap.size w w1) := hb
  have HFP : Hid (F.Fl w1 aoP (F.plainL f)) := hfp
  have HPL : Hid ((F.plainL f).length ≤ 1000000000000) := by
   show _ ≤ _
   have := F.length_plainL f
   omega
  clear ho hb hfp
  go_wp2_with fail
  refine (refSame_any aoP ao capP cap (F.plainL f) f w1 HFP.out (HF.out.next HB1.out) HPL.out).mono ?_
  rintro e w2 ⟨rfl, n, rfl⟩
  have HB2 : Hid (Below w.heap.size w (w1.drewN n)) := blw_drewN HB1.out n
  cases hp : decide (F.plainL f = f) with
  | false =>
   have HQ : Hid (mayHold f m = false) := by show _ = _; rw [HMH.out, hp]; simp
   clear hp
   go_wp2
   go_ret
   exact ⟨ret_bool HQ.out.symm, HB2.out⟩
  | true =>
   have HQ : Hid (mayHold f m = decide (F.tot f ≤ m)) := by show _ = _; rw [HMH.out, hp, decide_eq_true HR.out]; simp
   have HFT := (show Hid _ from F.fluidTotal_any ao cap f (w1.drewN n) (HF.out.next HB2.out) HR.out)
   clear hp
   go_wp2_with fail
   refine Calls.mono HFT.out ?_
   rintro e w3 ⟨rfl, rfl⟩
   go_wp2
   go_ret
   exact ⟨ret_bool HQ.out.symm, HB2.out⟩
 ·have HQ : Hid (mayHold f m = false) := by show _ = _; rw [HMH.out, decide_eq_false hr]; simp
  have h2 : (F.fref f == 0) = false := by simp [hr]
  clear hr
  go_enter Tryz.func32, Tryz.ntmps32
  go_wp2_with fail
  refine Calls.mono HFM.out ?_
  rintro e w1 ⟨rfl, rfl⟩
  go_wp2
  go_ret
  exact ⟨ret_bool HQ.out.symm, brf⟩
end Go.Proofs.YtfadmpnpgiceeaaGreat

/- workcellref: SameTexts, SameState walked, where both are the same. -/
namespace Go.Proofs.YtfadmpnpgiceeaaGreat
open Go.RowKit Go.Maps
theorem pl_neqR (W : World) (p : Plc) : (binOp .neq 31 (.agg #[.int .i64 p.1, .int .i64 p.2.1, .int .i64 p.2.2]) (.agg #[.int .i64 p.1, .int .i64 p.2.1, .int .i64 p.2.2])).run Tryz.prog W = .ok (.bool false) W := by go_simp
theorem refFluid_same (ao ao' : Option Addr) (cap cap' : Nat) (ps : List F.Pc) (w : World) (h : F.Fl w ao ps) (h' : F.Fl w ao' ps) (hl : ps.length ≤ 100) :
  Calls Tryz.prog 12 #[.slice ao ps.length cap, .slice ao' ps.length cap'] w fun e w' => e = .returned (.bool true) ∧ Below w.heap.size w w' := by
 have := refSame_any ao ao' cap cap' ps ps w h h' (by omega)
 rw [decide_eq_true rfl] at this
 refine this.mono ?_
 rintro e w' ⟨rfl, n, rfl⟩
 exact ⟨rfl, blw_drewN (brf) n⟩
set_option maxHeartbeats 1600000 in
theorem sameTexts_same (ao ao' : Option Addr) (cap cap' : Nat) (ps : List ByteArray) (w : World) (h : Tx w ao ps) (h' : Tx w ao' ps) (hl : ps.length ≤ 100) :
  Calls Tryz.prog 51 #[.slice ao ps.length cap, .slice ao' ps.length cap'] w fun e w' => e = .returned (.bool true) ∧ Below w.heap.size w w' := by
 have HF : Hid (Tx w ao ps) := h
 have HF' : Hid (Tx w ao' ps) := h'
 clear h h'
 go_enter Tryz.func51, Tryz.ntmps51
 go_wp2
 go_loopw [5] (fun i wr => ∃ k : Nat, k ≤ ps.length ∧ i = .int .i64 k ∧ ∃ n, wr = w.drewN n) (fun i _ => ps.length - (intOf i).toNat)
 case atStart => exact ⟨0, Nat.zero_le _, rfl, 0, rfl⟩
 case round =>
  obtain ⟨k, hk, rfl, n, rfl⟩ := hrel
  by_cases hlt : k < ps.length
  ·obtain ⟨b, off, rfl, hb, c0, _⟩ := HF.out.at hlt
   obtain ⟨b', off', rfl, hb', c0', _⟩ := HF'.out.at hlt
   generalize ps[k]'hlt = p at *
   have hki : (k : Int) < (ps.length : Int) := by omega
   go_wp2
   go_big_quiet (fail)
   go_wp2
   go_roundw
   case rel => exact ⟨k + 1, by omega, by go_num, n + nq, by simp⟩
   case measure => simp [intOf]; omega
  ·go_wp2
   go_ret
   exact ⟨rfl, blw_drewN (brf) _⟩
def ssV (A B bx ox bs os k n cx cs : Nat) (p : Plc) (f : List F.Pc) (aox aos : Option Addr) (capx caps : Nat) (d : Nat) (v : Value) (_ : World) : Prop :=
 match d with
 | 64 => v = .pointer (some ⟨A, 0, none⟩)
 | 65 => v = .slice (some ⟨bx, ox, none⟩) n cx
 | 66 => v = .int .i64 (k : Int)
 | 67 => v = .pointer (some ⟨bx, ox + k * 4, none⟩)
 | 68 => v = .pointer (some ⟨bx, ox + k * 4, none⟩)
 | 69 => v = .agg #[.int .i64 p.1, .int .i64 p.2.1, .int .i64 p.2.2]
 | 70 => v = .pointer (some ⟨B, 0, none⟩)
 | 71 => v = .slice (some ⟨bs, os, none⟩) n cs
 | 72 => v = .int .i64 (k : Int)
 | 73 => v = .pointer (some ⟨bs, os + k * 4, none⟩)
 | 74 => v = .pointer (some ⟨bs, os + k * 4, none⟩)
 | 75 => v = .agg #[.int .i64 p.1, .int .i64 p.2.1, .int .i64 p.2.2]
 | 76 => v = .bool false
 | 77 => v = .bool false
 | 78 => v = .pointer (some ⟨A, 0, none⟩)
 | 79 => v = .slice (some ⟨bx, ox, none⟩) n cx
 | 80 => v = .int .i64 (k : Int)
 | 81 => v = .pointer (some ⟨bx, ox + k * 4, none⟩)
 | 82 => v = .pointer (some ⟨bx, ox + k * 4 + 3, none⟩)
 | 83 => v = .slice aox f.length capx
 | 84 => v = .pointer (some ⟨B, 0, none⟩)
 | 85 => v = .slice (some ⟨bs, os, none⟩) n cs
 | 86 => v = .int .i64 (k : Int)
 | 87 => v = .pointer (some ⟨bs, os + k * 4, none⟩)
 | 88 => v = .pointer (some ⟨bs, os + k * 4 + 3, none⟩)
 | 89 => v = .slice aos f.length caps
 | 90 => v = .bool true
 | 91 => v = .bool false
 | 92 => v = .bool false
 | _ => True
theorem ssV_mono (A B bx ox bs os k n cx cs : Nat) (p : Plc) (f : List F.Pc) (aox aos : Option Addr) (capx caps : Nat) (d : Nat) (v : Value) (w w' : World) (h : ssV A B bx ox bs os k n cx cs p f aox aos capx caps d v w) (_ : Below w.heap.size w w') : ssV A B bx ox bs os k n cx cs p f aox aos capx caps d v w' := h
set_option maxHeartbeats 6400000 in
set_option maxRecDepth 100000 in
theorem refState_same (x s : Sm) (w : World) (hX : SmIn w x) (hS : SmIn w s) (hst : x.st = s.st) (hl : s.wl.length ≤ 4608) (hf : ∀ y ∈ s.wl, y.2.2.2.length ≤ 100) (hh : s.held.length ≤ 100) (ht : s.touched.length ≤ 100) :
  Calls Tryz.prog 17 #[smv x, smv s] w fun e w' => e = .returned (.bool true) ∧ Below w.heap.size w w' := by
 obtain ⟨aoW, capW, wl, tip, aoH, capH, held, aoT, capT, touched, used, heat, clock⟩ := x
 have e1 : whp wl = whp s.wl := congrArg Sta.wells hst
 have e2 : tip = s.tip := congrArg Sta.tip hst
 have e3 : held = s.held := congrArg Sta.held hst
 have e4 : touched = s.touched := congrArg Sta.touched hst
 have e5 : used = s.used := congrArg Sta.used hst
 have e6 : heat = s.heat := congrArg Sta.heat hst
 have e7 : clock = s.clock := congrArg Sta.clock hst
 subst e2 e3 e4 e5 e6 e7
 have hlen : wl.length = s.wl.length := by have := congrArg List.length e1; rw [whp_length, whp_length] at this; exact this
 have HLE : Hid (wl.length = s.wl.length) := hlen
 have HEQ : Hid (∀ k (h : k < s.wl.length) (hz : k < wl.length), ((wl[k]'hz).1, (wl[k]'hz).2.2.2) = ((s.wl[k]'h).1, (s.wl[k]'h).2.2.2)) := fun k h hz => by
  have h1 := whp_at (l := wl) (k := k) hz
  have h2 := whp_at (l := s.wl) (k := k) h
  have : (whp wl)[k]'(by rw [whp_length]; exact hz) = (whp s.wl)[k]'(by rw [whp_length]; exact h) := by simp only [e1]
  rw [h1, h2] at this
  exact this
 obtain ⟨w0, hw0⟩ : ∃ w0, w0 = (w.alloc (smo ⟨aoW, capW, wl, s.tip, aoH, capH, s.held, aoT, capT, s.touched, s.used, s.heat, s.clock⟩)).alloc (smo s) := ⟨_, rfl⟩
 have b0 : Below w.heap.size w w0 := by rw [hw0]; exact ((brf).alloc (Nat.le_refl _) _).alloc (by simp) _
 have KX0 : Hid (Bk w.heap.size [.slice aoW wl.length capW, .bool s.tip, .slice aoH s.held.length capH, .slice aoT s.touched.length capT, .int .i64 s.used, .int .i64 s.heat, .int .i64 s.clock] w0) := by show Bk _ _ _; rw [hw0]; exact (Bk.new w _ 27 w.heap.size rfl).later ((brf).alloc (Nat.le_refl _) _)
 have KS0 : Hid (Bk (w.heap.size + 1) (sml s) w0) := by show Bk _ _ _; rw [hw0]; exact Bk.new _ (sml s) 27 (w.heap.size + 1) (by simp)
 have HX : Hid (SmIn w0 ⟨aoW, capW, wl, s.tip, aoH, capH, s.held, aoT, capT, s.touched, s.used, s.heat, s.clock⟩) := hX.next b0
 have HS : Hid (SmIn w0 s) := hS.next b0
 have HB0 : Hid (Below w.heap.size w w0) := b0
 have HW0 : Hid (w0 = _) := hw0
 have HFL : Hid (∀ y ∈ s.wl, y.2.2.2.length ≤ 100) := hf
 have HHL : Hid (s.held.length ≤ 100) := hh
 have HTL : Hid (s.touched.length ≤ 100) := ht
 have hne : ((wl.length : Int) != (s.wl.length : Int)) = false := by simp [hlen]
 clear hX hS hst e1 hw0 b0 hlen hf hh ht
 go_enter Tryz.func17, Tryz.ntmps17
 go_wp2_with fail
 rw [← HW0.out]
 refine (refFluid_same aoH s.aoH capH s.capH s.held w0 HX.out.held HS.out.held HHL.out).mono ?_
 rintro e w1 ⟨rfl, hb⟩
 have KX1 : Hid (Bk w.heap.size [.slice aoW wl.length capW, .bool s.tip, .slice aoH s.held.length capH, .slice aoT s.touched.length capT, .int .i64 s.used, .int .i64 s.heat, .int .i64 s.clock] w1) := KX0.out.later hb
 have KS1 : Hid (Bk (w.heap.size + 1) (sml s) w1) := KS0.out.later hb
 have HB1 : Hid (Below w.heap.size w w1) := HB0.out.trans (hb.mono HB0.out.size)
 have HX1 : Hid (SmIn w1 ⟨aoW, capW, wl, s.tip, aoH, capH, s.held, aoT, capT, s.touched, s.used, s.heat, s.clock⟩) := HX.out.next hb
 have HS1 : Hid (SmIn w1 s) := HS.out.next hb
 clear hb HX HS KX0 KS0 HB0
 obtain ⟨x0, x1, x2, x3, x4, x5, x6⟩ := (KX1.out).c7
 obtain ⟨y0, y1, y2, y3, y4, y5, y6⟩ := (KS1.out).c7
 go_wp2_with fail
 clear x0 x1 x2 x3 x4 x5 x6 y0 y1 y2 y3 y4 y5 y6
 refine (sameTexts_same aoT s.aoT capT s.capT s.touched w1 HX1.out.touched HS1.out.touched HTL.out).mono ?_
 rintro e w2 ⟨rfl, hb⟩
 have KX2 : Hid (Bk w.heap.size [.slice aoW wl.length capW, .bool s.tip, .slice aoH s.held.length capH, .slice aoT s.touched.length capT, .int .i64 s.used, .int .i64 s.heat, .int .i64 s.clock] w2) := KX1.out.later hb
 have KS2 : Hid (Bk (w.heap.size + 1) (sml s) w2) := KS1.out.later hb
 have HB2 : Hid (Below w.heap.size w w2) := HB1.out.trans (hb.mono HB1.out.size)
 have HX2 : Hid (SmIn w2 ⟨aoW, capW, wl, s.tip, aoH, capH, s.held, aoT, capT, s.touched, s.used, s.heat, s.clock⟩) := HX1.out.next hb
 have HS2 : Hid (SmIn w2 s) := HS1.out.next hb
 clear hb HX1 HS1 KX1 KS1 HB1
 obtain ⟨x0, x1, x2, x3, x4, x5, x6⟩ := (KX2.out).c7
 obtain ⟨y0, y1, y2, y3, y4, y5, y6⟩ := (KS2.out).c7
 go_wp2_with fail
 clear x0 x1 x2 x3 x4 x5 x6 y0 y1 y2 y3 y4 y5 y6
 go_loopw [5] (fun i wr => ∃ k : Nat, k ≤ s.wl.length ∧ i = .int .i64 k ∧ Below w2.heap.size w2 wr) (fun i _ => s.wl.length - (intOf i).toNat)
 case atStart => exact ⟨0, Nat.zero_le _, rfl, brf⟩
 case round =>
  obtain ⟨k, hk, rfl, hb⟩ := hrel
  have HB : Hid (Below w2.heap.size w2 wr) := hb
  have KX : Hid (Bk w.heap.size [.slice aoW s.wl.length capW, .bool s.tip, .slice aoH s.held.length capH, .slice aoT s.touched.length capT, .int .i64 s.used, .int .i64 s.heat, .int .i64 s.clock] wr) := by
   have := KX2.out.later hb
   rw [HLE.out] at this
   exact this
  have KS : Hid (Bk (w.heap.size + 1) (sml s) wr) := KS2.out.later hb
  have HX3 : Hid (SmIn wr ⟨aoW, capW, wl, s.tip, aoH, capH, s.held, aoT, capT, s.touched, s.used, s.heat, s.clock⟩) := HX2.out.next hb
  have HS3 : Hid (SmIn wr s) := HS2.out.next hb
  clear hb
  have x0 := KX.out.c 0 rfl
  by_cases hlt : k < s.wl.length
  rotate_left
  ·go_wp2
   go_ret
   exact ⟨rfl, HB2.out.trans (HB.out.mono HB2.out.size)⟩
  ·have hltx : k < wl.length := by rw [HLE.out]; exact hlt
   obtain ⟨bx, ox, hax, hcx⟩ := HX3.out.wells.at hltx
   obtain ⟨bs, os, has, hcs⟩ := HS3.out.wells.at hlt
   have heq := HEQ.out k hlt hltx
   have hfl := HFL.out _ (List.getElem_mem hlt)
   simp only at hax hcx
   generalize wl[k]'hltx = yx at *
   generalize s.wl[k]'hlt = ys at *
   obtain ⟨p, aox, capx, f⟩ := yx
   obtain ⟨p', aos, caps, f'⟩ := ys
   simp only [Prod.mk.injEq] at heq
   obtain ⟨rfl, rfl⟩ := heq
   obtain ⟨_, c0, c1, c2, c3, hfx⟩ := hcx
   obtain ⟨_, e0, e1, e2, e3, hfs⟩ := hcs
   simp only at c0 c1 c2 c3 e0 e1 e2 e3 hfx hfs hfl
   have HSF : Hid (∀ W, Below wr.heap.size wr W → Calls Tryz.prog 12 #[.slice aox f.length capx, .slice aos f.length caps] W fun e w' => e = .returned (.bool true) ∧ Below W.heap.size W w') := fun W hW => refFluid_same aox aos capx caps f W (F.Fl.next hfx hW) (F.Fl.next hfs hW) hfl
   have KXa : Hid (Bk w.heap.size [.slice (some ⟨bx, ox, none⟩) s.wl.length capW, .bool s.tip, .slice aoH s.held.length capH, .slice aoT s.touched.length capT, .int .i64 s.used, .int .i64 s.heat, .int .i64 s.clock] wr) := by show Bk _ _ _; rw [← hax]; exact KX.out
   have KSa : Hid (Bk (w.heap.size + 1) [.slice (some ⟨bs, os, none⟩) s.wl.length s.capW, .bool s.tip, .slice s.aoH s.held.length s.capH, .slice s.aoT s.touched.length s.capT, .int .i64 s.used, .int .i64 s.heat, .int .i64 s.clock] wr) := by show Bk _ _ _; rw [← has]; exact KS.out
   have hki : (k : Int) < (s.wl.length : Int) := by omega
   clear hax has hfx hfs hltx
   go_wp2_with fail
   rename_i KK hkk
   have HKK := (show Hid _ from hkk)
   clear hkk
   clear KX KS
   have KX := KXa
   have KS := KSa
   refine region_inv [zf,zf,zf,zf,zf,zf,zf,zf,zf,zf,zf,zf,zf,zf,zf,zf,zf,zf,zf,zf,zf,zf,zf,zf,zf,zf,zf,zf,zf,zf,zf,zf,zf,zf,zf,zf,zf,zf,zf,zf,zf,zf,zf,zf,zf,zf,zf,zf,zf,zf,zf,zf,zf,zf,zf,zf,zf,zf,zf,zf,zf,zf,zf,zf,zt,zt,zt,zt,zt,zt,zt,zt,zt,zt,zt,zt,zt,zt,zt,zt,zt,zt,zt,zt,zt,zt,zt,zt,zt,zt,zt,zt,zt]
    [(64, [], none), (65, [64], none), (66, [], none), (67, [65, 66], none), (68, [67], none), (69, [68], none), (70, [], none), (71, [70], none), (72, [], none), (73, [71, 72], none), (74, [73], none), (75, [74], none), (76, [69, 75], none), (77, [76], none), (78, [77], some (77, false)), (79, [77, 78], some (77, false)), (80, [77], some (77, false)), (81, [77, 79, 80], some (77, false)), (82, [77, 81], some (77, false)), (83, [77, 82], some (77, false)), (84, [77], some (77, false)), (85, [77, 84], some (77, false)), (86, [77], some (77, false)), (87, [77, 85, 86], some (77, false)), (88, [77, 87], some (77, false)), (89, [77, 88], some (77, false)), (90, [77, 83, 89], some (77, false)), (91, [77, 90], some (77, false)), (92, [77, 91], none)]
    (ssV w.heap.size (w.heap.size + 1) bx ox bs os k s.wl.length capW s.capW p f aox aos capx caps) (by kernel_rfl) (by kernel_rfl) (ssV_mono w.heap.size (w.heap.size + 1) bx ox bs os k s.wl.length capW s.capW p f aox aos capx caps) ?_ ?_
   ·refine ⟨?_, ?_, ?_, ?_, ?_, ?_, ?_, ?_, ?_, ?_, ?_, ?_, ?_, ?_, ?_, ?_, ?_, ?_, ?_, ?_, ?_, ?_, ?_, ?_, ?_, ?_, ?_, ?_, ?_, trivial⟩
    ·intro f wA hb _ K hK
     simp only [over, overL, Nat.reduceAdd]
     go_simp
     exact hK _ _ ⟨_, rfl, by simp only [over, overL, Nat.reduceAdd]; rfl, brf⟩
    ·rintro f wA hb ⟨(h64 : f 64 = _), _⟩ K hK
     have q0 := (KX.out.later hb).c 0 rfl
     simp only [over, overL, Nat.reduceAdd, h64]
     go_simp
     exact hK _ _ ⟨_, rfl, by simp only [over, overL, Nat.reduceAdd, h64]; rfl, brf⟩
    ·intro f wA hb _ K hK
     simp only [over, overL, Nat.reduceAdd]
     go_simp
     exact hK _ _ ⟨_, rfl, by simp only [over, overL, Nat.reduceAdd]; rfl, brf⟩
    ·rintro f wA hb ⟨(h65 : f 65 = _), (h66 : f 66 = _), _⟩ K hK
     simp only [over, overL, Nat.reduceAdd, h65, h66]
     go_simp
     exact hK _ _ ⟨_, rfl, by simp only [over, overL, Nat.reduceAdd, h65, h66]; rfl, brf⟩
    ·rintro f wA hb ⟨(h67 : f 67 = _), _⟩ K hK
     simp only [over, overL, Nat.reduceAdd, h67]
     go_simp
     exact hK _ _ ⟨_, rfl, by simp only [over, overL, Nat.reduceAdd, h67]; rfl, brf⟩
    ·rintro f wA hb ⟨(h68 : f 68 = _), _⟩ K hK
     have q0 := cell_later hb c0
     have q1 := cell_later hb c1
     have q2 := cell_later hb c2
     simp only [over, overL, Nat.reduceAdd, h68]
     go_simp
     exact hK _ _ ⟨_, rfl, by simp only [over, overL, Nat.reduceAdd, h68]; rfl, brf⟩
    ·intro f wA hb _ K hK
     simp only [over, overL, Nat.reduceAdd]
     go_simp
     exact hK _ _ ⟨_, rfl, by simp only [over, overL, Nat.reduceAdd]; rfl, brf⟩
    ·rintro f wA hb ⟨(h70 : f 70 = _), _⟩ K hK
     have q0 := (KS.out.later hb).c 0 rfl
     simp only [over, overL, Nat.reduceAdd, h70]
     go_simp
     exact hK _ _ ⟨_, rfl, by simp only [over, overL, Nat.reduceAdd, h70]; rfl, brf⟩
    ·intro f wA hb _ K hK
     simp only [over, overL, Nat.reduceAdd]
     go_simp
     exact hK _ _ ⟨_, rfl, by simp only [over, overL, Nat.reduceAdd]; rfl, brf⟩
    ·rintro f wA hb ⟨(h71 : f 71 = _), (h72 : f 72 = _), _⟩ K hK
     simp only [over, overL, Nat.reduceAdd, h71, h72]
     go_simp
     exact hK _ _ ⟨_, rfl, by simp only [over, overL, Nat.reduceAdd, h71, h72]; rfl, brf⟩
    ·rintro f wA hb ⟨(h73 : f 73 = _), _⟩ K hK
     simp only [over, overL, Nat.reduceAdd, h73]
     go_simp
     exact hK _ _ ⟨_, rfl, by simp only [over, overL, Nat.reduceAdd, h73]; rfl, brf⟩
    ·rintro f wA hb ⟨(h74 : f 74 = _), _⟩ K hK
     have q0 := cell_later hb e0
     have q1 := cell_later hb e1
     have q2 := cell_later hb e2
     simp only [over, overL, Nat.reduceAdd, h74]
     go_simp
     exact hK _ _ ⟨_, rfl, by simp only [over, overL, Nat.reduceAdd, h74]; rfl, brf⟩
    ·rintro f wA hb ⟨(h69 : f 69 = _), (h75 : f 75 = _), _⟩ K hK
     have hpl := pl_neqR wA p
     simp only [over, overL, Nat.reduceAdd, h69, h75]
     go_simp
     exact hK _ _ ⟨_, rfl, by simp only [over, overL, Nat.reduceAdd, h69, h75]; rfl, brf⟩
    ·rintro f wA hb ⟨(h76 : f 76 = _), _⟩ K hK
     simp only [over, overL, Nat.reduceAdd, h76]
     go_simp
     exact hK _ _ ⟨_, rfl, by simp only [over, overL, Nat.reduceAdd, h76]; rfl, brf⟩
    ·rintro f wA hb ⟨(h77 : f 77 = _), _⟩
     refine ⟨fun _ => ?_, fun hg => absurd h77 hg⟩
     intro K hK
     simp only [over, overL, Nat.reduceAdd, h77]
     go_simp
     exact hK _ _ ⟨_, rfl, by simp only [over, overL, Nat.reduceAdd, h77]; rfl, brf⟩
    ·rintro f wA hb ⟨(h77 : f 77 = _), (h78 : f 78 = _), _⟩
     refine ⟨fun _ => ?_, fun hg => absurd h77 hg⟩
     intro K hK
     have q0 := (KX.out.later hb).c 0 rfl
     simp only [over, overL, Nat.reduceAdd, h77, h78]
     go_simp
     exact hK _ _ ⟨_, rfl, by simp only [over, overL, Nat.reduceAdd, h77, h78]; rfl, brf⟩
    ·rintro f wA hb ⟨(h77 : f 77 = _), _⟩
     refine ⟨fun _ => ?_, fun hg => absurd h77 hg⟩
     intro K hK
     simp only [over, overL, Nat.reduceAdd, h77]
     go_simp
     exact hK _ _ ⟨_, rfl, by simp only [over, overL, Nat.reduceAdd, h77]; rfl, brf⟩
    ·rintro f wA hb ⟨(h77 : f 77 = _), (h79 : f 79 = _), (h80 : f 80 = _), _⟩
     refine ⟨fun _ => ?_, fun hg => absurd h77 hg⟩
     intro K hK
     simp only [over, overL, Nat.reduceAdd, h77, h79, h80]
     go_simp
     exact hK _ _ ⟨_, rfl, by simp only [over, overL, Nat.reduceAdd, h77, h79, h80]; rfl, brf⟩
    ·rintro f wA hb ⟨(h77 : f 77 = _), (h81 : f 81 = _), _⟩
     refine ⟨fun _ => ?_, fun hg => absurd h77 hg⟩
     intro K hK
     simp only [over, overL, Nat.reduceAdd, h77, h81]
     go_simp
     exact hK _ _ ⟨_, rfl, by simp only [over, overL, Nat.reduceAdd, h77, h81]; rfl, brf⟩
    ·rintro f wA hb ⟨(h77 : f 77 = _), (h82 : f 82 = _), _⟩
     refine ⟨fun _ => ?_, fun hg => absurd h77 hg⟩
     intro K hK
     have q3 := cell_later hb c3
     simp only [over, overL, Nat.reduceAdd, h77, h82]
     go_simp
     exact hK _ _ ⟨_, rfl, by simp only [over, overL, Nat.reduceAdd, h77, h82]; rfl, brf⟩
    ·rintro f wA hb ⟨(h77 : f 77 = _), _⟩
     refine ⟨fun _ => ?_, fun hg => absurd h77 hg⟩
     intro K hK
     simp only [over, overL, Nat.reduceAdd, h77]
     go_simp
     exact hK _ _ ⟨_, rfl, by simp only [over, overL, Nat.reduceAdd, h77]; rfl, brf⟩
    ·rintro f wA hb ⟨(h77 : f 77 = _), (h84 : f 84 = _), _⟩
     refine ⟨fun _ => ?_, fun hg => absurd h77 hg⟩
     intro K hK
     have q0 := (KS.out.later hb).c 0 rfl
     simp only [over, overL, Nat.reduceAdd, h77, h84]
     go_simp
     exact hK _ _ ⟨_, rfl, by simp only [over, overL, Nat.reduceAdd, h77, h84]; rfl, brf⟩
    ·rintro f wA hb ⟨(h77 : f 77 = _), _⟩
     refine ⟨fun _ => ?_, fun hg => absurd h77 hg⟩
     intro K hK
     simp only [over, overL, Nat.reduceAdd, h77]
     go_simp
     exact hK _ _ ⟨_, rfl, by simp only [over, overL, Nat.reduceAdd, h77]; rfl, brf⟩
    ·rintro f wA hb ⟨(h77 : f 77 = _), (h85 : f 85 = _), (h86 : f 86 = _), _⟩
     refine ⟨fun _ => ?_, fun hg => absurd h77 hg⟩
     intro K hK
     simp only [over, overL, Nat.reduceAdd, h77, h85, h86]
     go_simp
     exact hK _ _ ⟨_, rfl, by simp only [over, overL, Nat.reduceAdd, h77, h85, h86]; rfl, brf⟩
    ·rintro f wA hb ⟨(h77 : f 77 = _), (h87 : f 87 = _), _⟩
     refine ⟨fun _ => ?_, fun hg => absurd h77 hg⟩
     intro K hK
     simp only [over, overL, Nat.reduceAdd, h77, h87]
     go_simp
     exact hK _ _ ⟨_, rfl, by simp only [over, overL, Nat.reduceAdd, h77, h87]; rfl, brf⟩
    ·rintro f wA hb ⟨(h77 : f 77 = _), (h88 : f 88 = _), _⟩
     refine ⟨fun _ => ?_, fun hg => absurd h77 hg⟩
     intro K hK
     have q3 := cell_later hb e3
     simp only [over, overL, Nat.reduceAdd, h77, h88]
     go_simp
     exact hK _ _ ⟨_, rfl, by simp only [over, overL, Nat.reduceAdd, h77, h88]; rfl, brf⟩
    ·rintro f wA hb ⟨(h77 : f 77 = _), (h83 : f 83 = _), (h89 : f 89 = _), _⟩
     refine ⟨fun _ => ?_, fun hg => absurd h77 hg⟩
     intro K hK
     simp only [over, overL, Nat.reduceAdd, h77, h83, h89]
     go_simp
     refine ((HSF.out wA hb).mono) ?_
     rintro e w2 ⟨rfl, hb2⟩
     exact hK _ _ ⟨_, rfl, by simp only [over, overL, Nat.reduceAdd, h77, h83, h89]; rfl, hb2⟩
    ·rintro f wA hb ⟨(h77 : f 77 = _), (h90 : f 90 = _), _⟩
     refine ⟨fun _ => ?_, fun hg => absurd h77 hg⟩
     intro K hK
     simp only [over, overL, Nat.reduceAdd, h77, h90]
     go_simp
     exact hK _ _ ⟨_, rfl, by simp only [over, overL, Nat.reduceAdd, h77, h90]; rfl, brf⟩
    ·rintro f wA hb ⟨(h77 : f 77 = _), (h91 : f 91 = _), _⟩ K hK
     simp only [over, overL, Nat.reduceAdd, h77, h91]
     go_simp
     exact hK _ _ ⟨_, rfl, by simp only [over, overL, Nat.reduceAdd, h77, h91]; rfl, brf⟩
   intro f' w3 hb hv
   have h92 : f' 92 = _ := hv.2.2.2.2.2.2.2.2.2.2.2.2.2.2.2.2.2.2.2.2.2.2.2.2.2.2.2.2.1
   have HB3 : Hid (Below w2.heap.size w2 w3) := HB.out.trans (hb.mono HB.out.size)
   clear hv hb
   simp only [over, overL, Nat.reduceAdd, h92]
   clear h92
   refine HKK.out _ _ ?_
   go_wp2
   go_roundw
   case rel => exact ⟨k + 1, by omega, by go_num, HB3.out⟩
   case measure => simp [intOf]; omega
end Go.Proofs.YtfadmpnpgiceeaaGreat
