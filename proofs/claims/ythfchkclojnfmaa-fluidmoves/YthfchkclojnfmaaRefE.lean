/- The document's FluidDraw, walked. -/
import Derived.Test.YthfchkclojnfmaaRefD
import Derived.Deep.RegionHeld3
import Derived.Deep.AppendLies
namespace Go.Proofs.Ythfchkclojnfmaa
open Go.RowKit

theorem drawR_all {C : ByteArray → Prop} (v : Int) {ps : List Pc} (h : ∀ q ∈ ps, C q.1) : (∀ q ∈ (drawR v ps).1, C q.1) ∧ (∀ q ∈ (drawR v ps).2.1, C q.1) := by
  induction ps using snoc_ind with
  | h0 => exact ⟨(fun q hq => by cases hq), (fun q hq => by cases hq)⟩
  | h1 a p ih =>
    obtain ⟨i1, i2⟩ := ih (fun q hq => h q (by simp [hq]))
    have hp := h p (by simp)
    rw [drawR_snoc]
    generalize drawR v a = s at *
    unfold rstep
    split
    · exact ⟨fun q hq => by rcases List.mem_append.1 hq with hq | hq; exact i1 q hq; simp at hq; subst hq; exact hp, i2⟩
    · exact ⟨(fun q hq => by rcases List.mem_append.1 hq with hq | hq; exact i1 q hq; simp at hq; subst hq; exact hp), (fun q hq => by rcases List.mem_append.1 hq with hq | hq; exact i2 q hq; simp at hq; subst hq; exact hp)⟩
theorem length_drawR (v : Int) (ps : List Pc) : (drawR v ps).1.length ≤ ps.length ∧ (drawR v ps).2.1.length ≤ ps.length := by
  induction ps using snoc_ind with
  | h0 => simp [drawR]
  | h1 a p ih =>
    rw [drawR_snoc]
    generalize drawR v a = s at *
    unfold rstep
    split <;> (simp only [List.length_append, List.length_singleton]; omega)
theorem tame_drawR {v : Int} (hv : 0 ≤ v) {ps : List Pc} (hr : fref ps = 0) : Tame (drawR v ps).1 ∧ Tame (drawR v ps).2.1 := by
  obtain ⟨h1, h2, h3⟩ := fref_in hr
  obtain ⟨e, n1, n2⟩ := draw_same hv h2.nn
  have hl := length_drawR v ps
  have ht := (tot_drawS v ps).1
  rw [e] at ht
  simp only [tot_plainL] at ht
  have t1 := tot_nonneg n1
  have t2 := tot_nonneg n2
  exact ⟨⟨n1, by omega, by omega⟩, ⟨n2, by omega, by omega⟩⟩
theorem drawR_v {v : Int} (h : 0 ≤ v) {ps : List Pc} (hn : Nn ps) : 0 ≤ (drawR v ps).2.2 ∧ (drawR v ps).2.2 ≤ v := by
  have := drawS_v h hn
  rw [(draw_same h hn).1] at this
  exact this

/-- One parcel appended to the call's own fluid, at a step of a region that draws. -/
theorem step_append_pc (w : World) {ops : Array Oper} {o : Oper} {a : Act} {K : Act → World → Prop} {Q : Exit → Act → World → Prop} {E : Prop} (hgd : o.guard = none) (s x : Operand)
    (ho : o.op = .call { callee := .builtin .append, args := #[s, x], argTypes := #[22, 22] }) (base : Nat) (v : Value) (ps : List Pc) (hs : a.eval s = v) (hown : Own w base v ps)
    (b : Nat) (l : ByteArray) (n : Int) (hx : a.eval x = .slice (some ⟨b, 0, none⟩) 1 1) (h0 : w.cell? ⟨b, 0, none⟩ = some (.string l)) (h1 : w.cell? ⟨b, 1, none⟩ = some (.int .i64 n))
    (hlen : ps.length ≤ 1000000000000) (hbase : base ≤ w.heap.size)
    (h : ∀ g cap w', Own w' base (.slice (some ⟨g, 0, none⟩) (ps.length + 1) cap) (ps ++ [(l, n)]) → w.grownBy w' v.ownBlock → Loc w v (.slice (some ⟨g, 0, none⟩) (ps.length + 1) cap) → K (a.put o.dst (.slice (some ⟨g, 0, none⟩) (ps.length + 1) cap)) w') :
    if Region.wanted o (yielded ops a.tmps) = true then Oper.wp Try.prog o a w K Q else E := by
  obtain ⟨i0, hi, hz0, hz1, hz2⟩ := info_parts Try.info46
  refine step_append_lies w hgd s x 22 ho base 46 i0 (.agg #[.string ⟨#[]⟩, .int .i64 0]) 2 24 Try.underlying22 hi hz0 hz1 hz2 rfl (by decide) v ps.length (cellsL ps) hs hown ⟨b, 0, none⟩ 1 1 [.string l, .int .i64 n] hx rfl ?_ ?_ (by decide) ?_ ?_ hbase w.heap.size rfl ?_
  · intro j u hj
    match j, hj with
    | 0, hj => simp at hj; subst hj; simpa [Addr.add] using h0
    | 1, hj => simp at hj; subst hj; simpa [Addr.add] using h1
  · intro u hu
    simp at hu
    rcases hu with rfl | rfl <;> rfl
  · unfold maxLen; omega
  · omega
  · intro g cap w' h1 h2 h3 _
    refine h g cap w' ?_ h2 (h3.elim (fun e => .inl (by rw [e]; rfl)) fun e => .inr ⟨g, rfl, by omega⟩)
    unfold Own
    rw [cellsL_append, cellsL_one, List.length_append]
    exact h1

theorem Own.drew {w : World} {base : Nat} {v : Value} {ps : List Pc} (h : Own w base v ps) : Own w.drew base v ps := h
theorem new_drew (w : World) (u0 u1 : Value) : ((w.alloc (.cells #[u0, u1] 46)).drew).cell? ⟨w.heap.size, 0, none⟩ = some u0 ∧ ((w.alloc (.cells #[u0, u1] 46)).drew).cell? ⟨w.heap.size, 1, none⟩ = some u1 :=
  ⟨by go_simp, by go_simp⟩

/-- What an append to one of two own fluids leaves: the other one, what lies below, that they lie apart. -/
theorem after_append {w wr w1 : World} {base : Nat} {t t' l : Value} {T L : List Pc} (o : Obj) (hB : Below base w wr) (hT : Own wr base t T) (hL : Own wr base l L) (hS : Sep t l) (hs : base ≤ wr.heap.size)
    (hg : (wr.alloc o).grownBy w1 t.ownBlock) (hloc : Loc (wr.alloc o) t t') : Below base w w1 ∧ Own w1 base l L ∧ Sep t' l := by
  have hk := hS.keep (hL.alloc o) hg hloc
  exact ⟨below_grown (hB.alloc hs _) (hT.alloc o) hg (by simp; omega), hk.1, hk.2⟩
theorem old_cell {w wr w1 : World} {base b o : Nat} {u : Value} (hB : Below base w wr) (hB1 : Below base w w1) (hb : b < base) (h : wr.cell? ⟨b, o, none⟩ = some u) : w1.cell? ⟨b, o, none⟩ = some u :=
  (hB1.cell (p := ⟨b, o, none⟩) hb).trans ((hB.cell (p := ⟨b, o, none⟩) hb).symm.trans h)

theorem own_below {w w' : World} {base : Nat} {v : Value} {ps : List Pc} (h : Own w base v ps) (hb : Below w.heap.size w w') : Own w' base v ps := by
  obtain ⟨h1, h2⟩ := h
  refine ⟨h1, h2.imp id ?_⟩
  rintro ⟨g, cap, cur, e, hg, hh, r⟩
  exact ⟨g, cap, cur, e, hg, (hb.block g (Array.getElem?_eq_some_iff.1 hh).1).trans hh, r⟩
theorem far_cell {w1 w5 : World} {base b o : Nat} {u l : Value} {L : List Pc} (o' : Obj) (hB : base ≤ w1.heap.size) (hL : Own w1 base l L) (hg : ((w1.alloc o').drew).grownBy w5 l.ownBlock) (hb : b < base) (h : w1.cell? ⟨b, o, none⟩ = some u) : w5.cell? ⟨b, o, none⟩ = some u := by
  refine hg.cell (a := ⟨b, o, none⟩) ?_ (fun e => by have := (World.ownsRow.lt hL b e.symm).1; omega)
  exact (((Below.refl w1.heap.size w1).alloc (Nat.le_refl _) o').cell (p := ⟨b, o, none⟩) (by simp only; omega)).trans h
theorem after_drawn {w w1 w5 : World} {base : Nat} {t t' l : Value} {T L : List Pc} (o : Obj) (hB : Below base w w1) (hT : Own w1 base t T) (hL : Own w1 base l L) (hS : Sep t l) (hs : base ≤ w1.heap.size)
    (hg : ((w1.alloc o).drew).grownBy w5 t.ownBlock) (hloc : Loc ((w1.alloc o).drew) t t') : Below base w w5 ∧ Own w5 base l L ∧ Sep t' l := by
  have hk := hS.keep ((hL.alloc o).drew) hg hloc
  exact ⟨below_grown ((hB.alloc hs _).drew) ((hT.alloc o).drew) hg (by simp; omega), hk.1, hk.2⟩

set_option maxHeartbeats 3200000 in
theorem fluidDraw_ok (ao : Option Addr) (cap : Nat) (ps : List Pc) (v : Int) (w : World) (h : Fl w ao ps) (hr : fref ps = 0) (hv : 0 ≤ v) (hvt : v ≤ tot ps) :
    Calls Try.prog 21 #[.slice ao ps.length cap, .int .i64 v] w fun e w' => ∃ x y, e = .returned (.tuple #[x, y, .int .i64 0]) ∧ Own w' w.heap.size x (drawS v ps).1 ∧ Own w' w.heap.size y (drawS v ps).2.1 ∧ Below w.heap.size w w' := by
  have HF : Hid (Fl w ao ps) := h
  have HR : Hid (fref ps = 0) := hr
  clear h hr
  have HI : Hid (ps.length ≤ 100 ∧ Fine ps ∧ tot ps ≤ 1000000000) := fref_in HR.out
  have hl100 := HI.out.1
  have ht9 := HI.out.2.2
  have hd1 : decide (v < 0) = false := by simp; omega
  have hd2 : decide (tot ps < v) = false := by simp; omega
  obtain ⟨i0, hi, hz0, hz1, hz2⟩ := info_parts Try.info46
  have HI0 : Hid (Try.prog.info? 46 = some i0 ∧ i0.zero = some (.agg #[.string ⟨#[]⟩, .int .i64 0]) ∧ i0.size = 2 ∧ i0.bytes = 24) := ⟨hi, hz0, hz1, hz2⟩
  clear hi hz0 hz1 hz2
  go_enter Try.func21, Try.ntmps21
  go_wp2_with fail
  refine (fluidTotal_any ao cap ps w HF.out HR.out).mono ?_
  rintro e w1 ⟨rfl, hw1⟩
  obtain rfl := hw1.symm
  clear hw1
  go_wp2
  go_loopw [1, 7, 8, 9] (fun u t l i wr => ∃ k : Nat, k ≤ ps.length ∧ i = .int .i64 k ∧ u = .int .i64 (drawR v (ps.take k)).2.2 ∧ Own wr w.heap.size t (drawR v (ps.take k)).1 ∧ Own wr w.heap.size l (drawR v (ps.take k)).2.1 ∧ Sep t l ∧ Below w.heap.size w wr) (fun _ _ _ i _ => ps.length - (intOf i).toNat)
  case atStart => exact ⟨0, Nat.zero_le _, rfl, rfl, Own.nil _ _, Own.nil _ _, .inl rfl, Below.refl _ _⟩
  case round =>
    obtain ⟨k, hk, rfl, rfl, ht, hl, hs, hb⟩ := hrel
    obtain ⟨ao1, n1, cap1, rfl⟩ := ht.form
    obtain ⟨ao2, n2, cap2, rfl⟩ := hl.form
    have HB3 : Hid (Below w.heap.size w wr) := hb
    have HT : Hid (Own wr w.heap.size (.slice ao1 n1 cap1) (drawR v (ps.take k)).1) := ht
    have HL : Hid (Own wr w.heap.size (.slice ao2 n2 cap2) (drawR v (ps.take k)).2.1) := hl
    have HS : Hid (Sep (.slice ao1 n1 cap1) (.slice ao2 n2 cap2)) := hs
    clear hb ht hl hs
    by_cases hlt : k < ps.length
    · obtain ⟨b2, off, rfl, hb2, c0, c1, _⟩ := (HF.out.next HB3.out).at hlt
      have hbw' : b2 < w.heap.size := by
        obtain ⟨b', off', e, hb', _⟩ := HF.out.at hlt
        injection e with e
        injection e with e _ _
        omega
      have HD : Hid (drawR v (ps.take (k + 1)) = rstep (drawR v (ps.take k)) (ps[k]'hlt)) := by
        rw [List.take_succ_eq_append_getElem hlt, drawR_snoc]; rfl
      have hp := HI.out.2.1 _ (List.getElem_mem hlt)
      have hp0 := hp.2.1
      have hp1 := hp.2.2
      clear hp
      have hvv := drawR_v hv (ps := ps.take k) (HI.out.2.1.nn.take k)
      have hv0 := hvv.1
      have hv1 := hvv.2
      clear hvv
      have hlr := length_drawR v (ps.take k)
      have hll : (ps.take k).length ≤ 100 := by rw [List.length_take]; omega
      have hlT : (drawR v (ps.take k)).1.length ≤ 100 := by omega
      have hlL : (drawR v (ps.take k)).2.1.length ≤ 100 := by omega
      clear hlr hll
      obtain ⟨p, hp⟩ : ∃ p, ps[k]'hlt = p := ⟨_, rfl⟩
      rw [hp] at c0 c1 HD hp0 hp1
      clear hp
      obtain ⟨l, n⟩ := p
      simp only at c0 c1 hp0 hp1
      generalize drawR v (ps.take k) = S at *
      obtain ⟨T, L, V⟩ := S
      simp only at HT HL hlT hlL hv0 hv1
      have hsz := HB3.out.size
      by_cases hc : n ≤ V
      · have HD2 : Hid (drawR v (ps.take (k + 1)) = (T ++ [(l, n)], L, V - n)) := by
          have e := HD.out
          simp only [rstep, if_pos hc] at e
          exact e
        go_wp2_with (at_builtin; refine wpList_append_pc _ rfl (.tmp 29) (.tmp 34) rfl w.heap.size (.slice ao1 n1 cap1) T rfl (HT.out.alloc _) wr.heap.size l n rfl (by go_simp) (by go_simp) (by omega) (by simp; omega) ?_; intro v' w1 ho hg hloc; have haf := after_append _ HB3.out HT.out HL.out HS.out hsz hg hloc; have c1' := old_cell HB3.out haf.1 hbw' c1)
        go_roundw
        case rel => exact ⟨k + 1, by omega, by go_num, by rw [HD2.out], by rw [HD2.out]; exact ho, by rw [HD2.out]; exact haf.2.1, haf.2.2, haf.1⟩
        case measure => simp [intOf]; omega
      · have HD2 : Hid (drawR v (ps.take (k + 1)) = (T ++ [(l, V)], L ++ [(l, n - V)], 0)) := by
          have e := HD.out
          simp only [rstep, if_neg hc] at e
          exact e
        have hcd : decide (n ≤ V) = false := by simp; omega
        have k0 : (0 : Int) ≤ (k : Int) := Int.natCast_nonneg _
        have k1 : (k : Int) < (ps.length : Int) := by omega
        go_wp2_with (at_builtin; refine wpList_append_pc _ rfl (.tmp 43) (.tmp 51) rfl w.heap.size (.slice ao1 n1 cap1) T rfl (HT.out.alloc _) wr.heap.size l V rfl (by go_simp) (by go_simp) (by omega) (by simp; omega) ?_; intro v' w1 ho hg hloc; have haf := after_append _ HB3.out HT.out HL.out HS.out hsz hg hloc; have c0' := old_cell HB3.out haf.1 hbw' c0; have c1' := old_cell HB3.out haf.1 hbw' c1)
        have HO1 : Hid (Own w1 w.heap.size v' (T ++ [(l, V)])) := ho
        have HAF : Hid (Below w.heap.size w w1 ∧ Own w1 w.heap.size (.slice ao2 n2 cap2) L ∧ Sep v' (.slice ao2 n2 cap2)) := haf
        clear ho hg hloc haf c0 c1
        have hsz1 := HAF.out.1.size
        go_region_held3 (fun w' => w'.cell? ⟨b2, off + k * 2, none⟩ = some (.string l) ∧ w'.cell? ⟨b2, off + k * 2 + 1, none⟩ = some (.int .i64 n)) (first | go_keep | (go_split_ands; exact ⟨far_cell _ hsz1 HAF.out.2.1 hg5 hbw' c0', far_cell _ hsz1 HAF.out.2.1 hg5 hbw' c1'⟩))
          ((refine step_append_pc _ (by rfl) _ _ (by rfl) w.heap.size (.slice ao2 n2 cap2) L (by rfl) ((HAF.out.2.1.alloc _).drew) w1.heap.size l (IntKind.i64.wrap (n - V)) (by rfl) (new_drew _ _ _).1 (new_drew _ _ _).2 (by omega) (by simp; omega) ?_; intro gg cap5 w5 ho5 hg5 hloc5))
        have haf := after_drawn _ HAF.out.1 HAF.out.2.1 HO1.out HAF.out.2.2.symm hsz1 hg5 hloc5
        have HO5 : Hid (Own w5 w.heap.size (.slice (some ⟨gg, 0, none⟩) (L.length + 1) cap5) (L ++ [(l, n - V)])) := by
          rw [IntWalk.i64_left, IntWalk.wrap64_in (n - V) (by omega)] at ho5; exact ho5
        have HAF5 : Hid (Below w.heap.size w w5 ∧ Own w5 w.heap.size v' (T ++ [(l, V)]) ∧ Sep v' (.slice (some ⟨gg, 0, none⟩) (L.length + 1) cap5)) := ⟨haf.1, haf.2.1, haf.2.2.symm⟩
        clear haf ho5 hg5 hloc5 c0' c1'
        go_wp2
        go_roundw
        case rel => exact ⟨k + 1, by omega, by go_num, by rw [HD2.out], by rw [HD2.out]; exact HAF5.out.2.1, by rw [HD2.out]; exact HO5.out, HAF5.out.2.2, HAF5.out.1⟩
        case measure => simp [intOf]; omega
    · have e : ps.take k = ps := List.take_of_length_le (by omega)
      rw [e] at HT HL ⊢
      clear e
      have HSZ : Hid ((∀ q ∈ (drawR v ps).1, q.1.size ≤ maxLen) ∧ (∀ q ∈ (drawR v ps).2.1, q.1.size ≤ maxLen)) := drawR_all (C := fun s => s.size ≤ maxLen) v HF.out.1
      have HTA : Hid (Tame (drawR v ps).1 ∧ Tame (drawR v ps).2.1) := tame_drawR hv HR.out
      have HE : Hid (drawS v ps = (plainL (drawR v ps).1, plainL (drawR v ps).2.1, (drawR v ps).2.2)) := (draw_same hv HI.out.2.1.nn).1
      generalize drawR v ps = S at *
      obtain ⟨T, L, V⟩ := S
      simp only at HT HL HSZ HTA HE ⊢
      have e1 : n1 = T.length := by obtain ⟨ax, cx, h⟩ := HT.out.shape; injection h
      have e2 : n2 = L.length := by obtain ⟨ax, cx, h⟩ := HL.out.shape; injection h
      subst e1 e2
      have HTF : Hid (Fl wr ao1 T) := HT.out.fl HSZ.out.1
      have HLF : Hid (Fl wr ao2 L) := HL.out.fl HSZ.out.2
      go_wp2_with fail
      refine (fluidPlain_any ao1 cap1 T wr HTF.out HTA.out.1).mono ?_
      rintro e w2 ⟨x, rfl, hx, hb⟩
      obtain ⟨ax, cx, rfl⟩ := hx.shape
      have HX : Hid (Own w2 wr.heap.size (.slice ax (plainL T).length cx) (plainL T)) := hx
      have HB4 : Hid (Below wr.heap.size wr w2) := hb
      clear hx hb
      go_wp2_with fail
      refine (fluidPlain_any ao2 cap2 L w2 (HLF.out.next HB4.out) HTA.out.2).mono ?_
      rintro e w3 ⟨y, rfl, hy, hb⟩
      obtain ⟨ay, cy, rfl⟩ := hy.shape
      have HX3 : Hid (Own w3 w.heap.size (.slice ax (plainL T).length cx) (plainL T)) := own_below (own_base HX.out HB3.out.size) hb
      have HY3 : Hid (Own w3 w.heap.size (.slice ay (plainL L).length cy) (plainL L)) := own_base hy (Nat.le_trans HB3.out.size HB4.out.size)
      have HB5 : Hid (Below w.heap.size w w3) := HB3.out.trans ((HB4.out.mono HB3.out.size).trans (hb.mono (Nat.le_trans HB3.out.size HB4.out.size)))
      clear hy hb
      go_wp2
      go_ret3
      exact ⟨.slice ax (plainL T).length cx, .slice ay (plainL L).length cy, rfl, by rw [HE.out]; exact HX3.out, by rw [HE.out]; exact HY3.out, HB5.out⟩
end Go.Proofs.Ythfchkclojnfmaa
