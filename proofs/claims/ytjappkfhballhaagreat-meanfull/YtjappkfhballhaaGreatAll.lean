/- ware.All walked. -/
import Derived.Test.YtjappkfhballhaaGreatMid
import Derived.Maps.AppendAt
namespace Go.Proofs.YtjappkfhballhaaGreat
open Go.RowKit


theorem Tryz.info29 : (Tryz.prog.info? 29).map (fun i => (i.zero, i.size, i.bytes)) = some (some (.agg #[.int .i64 0, .int .i64 0]), 2, 16) := by kernel_rfl

/-- The first k spots of a ware of R rows, column by column. -/
def spots (R k : Nat) : List (Nat × Nat) := (List.range k).map fun i => (i % R, i / R)
theorem spots_length (R k : Nat) : (spots R k).length = k := by simp [spots]
theorem spots_succ (R k : Nat) : spots R (k + 1) = spots R k ++ [(k % R, k / R)] := by simp [spots, List.range_succ]
theorem spots_at {R k i : Nat} (h : i < k) : (spots R k)[i]? = some (i % R, i / R) := by simp [spots, h]
theorem spots_next {R c r : Nat} (h : r < R) : spots R (c * R + r + 1) = spots R (c * R + r) ++ [(r, c)] := by
  rw [spots_succ]
  have h1 : (c * R + r) % R = r := by rw [Nat.mul_comm, Nat.mul_add_mod]; exact Nat.mod_eq_of_lt h
  have h2 : (c * R + r) / R = c := by rw [Nat.mul_comm, Nat.mul_add_div (by omega)]; simp [Nat.div_eq_of_lt h]
  rw [h1, h2]

/-- Spots as cells. -/
def cellsS (ps : List (Nat × Nat)) : List Value := ps.flatMap fun p => [.int .i64 p.1, .int .i64 p.2]
theorem cellsS_length (ps : List (Nat × Nat)) : (cellsS ps).length = ps.length * 2 := by
  induction ps with
  | nil => rfl
  | cons p ps ih => simp only [cellsS, List.flatMap_cons, List.length_append, List.length_cons, List.length_nil] at ih ⊢; omega
theorem cellsS_append (a b : List (Nat × Nat)) : cellsS (a ++ b) = cellsS a ++ cellsS b := by simp [cellsS]
theorem cellsS_one (p : Nat × Nat) : cellsS [p] = [.int .i64 p.1, .int .i64 p.2] := by simp [cellsS]
theorem cellsS_at {ps : List (Nat × Nat)} {k : Nat} (h : k < ps.length) : (cellsS ps)[k * 2]? = some (.int .i64 (ps[k]'h).1) ∧ (cellsS ps)[k * 2 + 1]? = some (.int .i64 (ps[k]'h).2) := by
  have e : ps = ps.take k ++ ps[k]'h :: ps.drop (k + 1) := by rw [← List.drop_eq_getElem_cons h, List.take_append_drop]
  have e2 : cellsS ps = cellsS (ps.take k) ++ ([.int .i64 (ps[k]'h).1, .int .i64 (ps[k]'h).2] ++ cellsS (ps.drop (k + 1))) := by
    conv => lhs; rw [e]
    rw [cellsS_append]; rfl
  have hl : (cellsS (ps.take k)).length = k * 2 := by rw [cellsS_length, List.length_take, Nat.min_eq_left (by omega)]
  rw [e2]
  constructor
  · rw [List.getElem?_append_right (by omega), hl]; simp
  · rw [List.getElem?_append_right (by omega), hl]; simp

/-- The call's own spots. -/
def Own (w : World) (base : Nat) (v : Value) (ps : List (Nat × Nat)) : Prop := w.ownsRow base 29 2 v ps.length (cellsS ps)
theorem Own.nil (w : World) (base : Nat) : Own w base (.slice none 0 0) [] := World.ownsRow_nil w base 29 2
theorem Own.shape {w : World} {base : Nat} {v : Value} {ps : List (Nat × Nat)} (h : Own w base v ps) : ∃ ao cap, v = .slice ao ps.length cap := by
  rcases h.2 with ⟨h1, h2⟩ | ⟨g, cap, cur, h1, _⟩
  · exact ⟨none, 0, by rw [h1, h2]⟩
  · exact ⟨_, _, h1⟩
theorem Own.alloc {w : World} {base : Nat} {v : Value} {ps : List (Nat × Nat)} (h : Own w base v ps) (o : Obj) : Own (w.alloc o) base v ps := World.ownsRow.alloc h o
/-- What can be read of them. -/
theorem Own.read {w : World} {base : Nat} {v : Value} {ps : List (Nat × Nat)} (h : Own w base v ps) : ps = [] ∨ ∃ g cap, v = .slice (some ⟨g, 0, none⟩) ps.length cap ∧ g < w.heap.size ∧
    ∀ k (hk : k < ps.length), w.cell? ⟨g, k * 2, none⟩ = some (.int .i64 (ps[k]'hk).1) ∧ w.cell? ⟨g, k * 2 + 1, none⟩ = some (.int .i64 (ps[k]'hk).2) := by
  rcases h.2 with ⟨h1, h2⟩ | ⟨g, cap', cur, h1, h2, h3, h4⟩
  · exact .inl (List.eq_nil_of_length_eq_zero h2)
  · subst h1
    refine .inr ⟨g, cap', rfl, (Array.getElem?_eq_some_iff.1 h3).1, fun k hk => ?_⟩
    have c := cellsS_at hk
    have e1 := World.ownsRow.cellAt h (k * 2) (by omega)
    have e2 := World.ownsRow.cellAt h (k * 2 + 1) (by omega)
    exact ⟨e1.trans c.1, e2.trans c.2⟩
theorem below_grown {base : Nat} {a w w' : World} {v : Value} {ps : List (Nat × Nat)} (h : Below base a w) (ho : Own w base v ps) (hg : w.grownBy w' v.ownBlock) (hB : base ≤ w.heap.size) : Below base a w' :=
  h.grown hg hB (fun k hk => (World.ownsRow.lt ho k hk).1)

/-- One spot appended to the call's own. -/
theorem wpList_append_spot (w : World) {ops : Array Oper} {rest : List Oper} {o : Oper} {a : Act} {Q : Exit → Act → World → Prop} (hgd : o.guard = none) (s x : Operand)
    (ho : o.op = .call { callee := .builtin .append, args := #[s, x], argTypes := #[107, 107] }) (base : Nat) (v : Value) (ps : List (Nat × Nat)) (hs : a.eval s = v) (hown : Own w base v ps)
    (b : Nat) (r c : Nat) (hx : a.eval x = .slice (some ⟨b, 0, none⟩) 1 1) (h0 : w.cell? ⟨b, 0, none⟩ = some (.int .i64 r)) (h1 : w.cell? ⟨b, 1, none⟩ = some (.int .i64 c))
    (hlen : ps.length ≤ 1000000000000) (hbase : base ≤ w.heap.size)
    (h : ∀ v' w', Own w' base v' (ps ++ [(r, c)]) → w.grownBy w' v.ownBlock → wpList Tryz.prog ops Q rest (a.put o.dst v') w') :
    wpList Tryz.prog ops Q (o :: rest) a w := by
  obtain ⟨i0, hi, hz0, hz1, hz2⟩ := info_parts Tryz.info29
  refine wpList_append_own_at w hgd s x 107 ho base 29 i0 (.agg #[.int .i64 0, .int .i64 0]) 2 16 Tryz.underlying107 hi hz0 hz1 hz2 rfl (by decide) v ps.length (cellsS ps) hs hown ⟨b, 0, none⟩ 1 1 [.int .i64 r, .int .i64 c] hx rfl ?_ ?_ ?_ ?_ hbase ?_
  · intro j u hj
    match j, hj with
    | 0, hj => simp at hj; subst hj; simpa [Addr.add] using h0
    | 1, hj => simp at hj; subst hj; simpa [Addr.add] using h1
  · intro u hu
    simp at hu
    rcases hu with rfl | rfl <;> rfl
  · unfold maxLen; omega
  · omega
  · intro v' w' h1 h2 _ h4
    refine h v' w' ?_ h2
    unfold Own
    rw [cellsS_append, cellsS_one, List.length_append]
    exact h1

set_option maxHeartbeats 1600000 in
theorem all_err (a : Wr) (w : World) (hs : a.name.size ≤ maxLen) (hn : chk a ≠ 0) :
    Calls Tryz.prog 66 #[wv a] w fun e w' => e = .returned (.tuple #[.slice none 0 0, .int .i64 (chk a)]) ∧ Below w.heap.size w w' := by
  have hne : (chk a != 0) = true := by simp [hn]
  go_enter Tryz.func66, Tryz.ntmps66
  go_wp2_with fail
  refine (check_any a _ hs).mono ?_
  rintro e w1 ⟨rfl, hb⟩
  go_wp2
  refine bodyPost_ret (v := .tuple #[.slice none 0 0, .int .i64 (chk a)]) (by simp [results, Tryz.results66, go_sem]) rfl ⟨rfl, ((Below.refl _ _).alloc (Nat.le_refl _) _).trans (hb.mono (by simp))⟩

set_option maxHeartbeats 3200000 in
theorem all_ok (a : Wr) (R C : Nat) (w : World) (hs : a.name.size ≤ maxLen) (h0 : chk a = 0) (hR : a.rows = R) (hC : a.cols = C) :
    Calls Tryz.prog 66 #[wv a] w fun e w' => ∃ v, e = .returned (.tuple #[v, .int .i64 0]) ∧ Own w' (w.heap.size + 1) v (spots R (C * R)) ∧ Below w.heap.size w w' := by
  have HIN : Hid (InR a) := chk_inR h0
  have HCH : Hid (chk a = 0) := h0
  have r2 : R ≤ 16 := by have := HIN.out.r2; omega
  have r1 : 1 ≤ R := by have := HIN.out.r1; omega
  have k2 : C ≤ 24 := by have := HIN.out.c2; omega
  have HR : Hid (a.rows = R) := hR
  have HC : Hid (a.cols = C) := hC
  clear hR hC h0
  go_enter Tryz.func66, Tryz.ntmps66
  go_wp2_with fail
  refine (check_any a _ hs).mono ?_
  rintro e w1 ⟨rfl, hb⟩
  rw [HCH.out]
  have e2 : w1.cell? ⟨w.heap.size, 2, none⟩ = some (.int .i64 (R : Int)) := by rw [← HR.out]; exact cell_later hb (by go_simp)
  have e3 : w1.cell? ⟨w.heap.size, 3, none⟩ = some (.int .i64 (C : Int)) := by rw [← HC.out]; exact cell_later hb (by go_simp)
  have hB : Below w.heap.size w w1 := ((Below.refl _ _).alloc (Nat.le_refl _) _).trans (hb.mono (by simp))
  have lt : w.heap.size + 1 ≤ w1.heap.size := by have := hb.size; simp at this; omega
  clear hb
  go_wp2_with fail
  go_loopw [5, 15] (fun v i wo => ∃ c : Nat, c ≤ C ∧ i = .int .i64 c ∧ Own wo (w.heap.size + 1) v (spots R (c * R)) ∧ Below (w.heap.size + 1) w1 wo) (fun _ i _ => C - (intOf i).toNat)
  case atStart => exact ⟨0, by omega, rfl, by simpa [spots] using Own.nil w1 (w.heap.size + 1), Below.refl _ _⟩
  case round =>
    obtain ⟨c, hc24, rfl, hown, hbo⟩ := hrel
    obtain ⟨wo, rfl⟩ : ∃ wo, wo = wr := ⟨_, rfl⟩
    obtain ⟨ao0, cap0, rfl⟩ := hown.shape
    have HO : Hid (Own wo (w.heap.size + 1) (.slice ao0 (spots R (c * R)).length cap0) (spots R (c * R))) := hown
    have HBO : Hid (Below (w.heap.size + 1) w1 wo) := hbo
    have d2 : wo.cell? ⟨w.heap.size, 2, none⟩ = some (.int .i64 (R : Int)) := (hbo.cell (p := ⟨w.heap.size, 2, none⟩) (by show w.heap.size < w.heap.size + 1; omega)).trans e2
    clear hown hbo
    generalize (spots R (c * R)).length = n0 at *
    by_cases hc : c < C
    · go_wp2_with fail
      go_loopw [5, 20] (fun v i wi => ∃ r : Nat, r ≤ R ∧ i = .int .i64 r ∧ Own wi (w.heap.size + 1) v (spots R (c * R + r)) ∧ Below (w.heap.size + 1) w1 wi) (fun _ i _ => R - (intOf i).toNat)
      case atStart => exact ⟨0, by omega, rfl, by simpa using HO.out, HBO.out⟩
      case round =>
        obtain ⟨r, hr16, rfl, hown, hbi⟩ := hrel
        obtain ⟨ao1, cap1, rfl⟩ := hown.shape
        have HO2 : Hid (Own wr (w.heap.size + 1) (.slice ao1 (spots R (c * R + r)).length cap1) (spots R (c * R + r))) := hown
        have HBI : Hid (Below (w.heap.size + 1) w1 wr) := hbi
        have HL : Hid ((spots R (c * R + r)).length ≤ 1000000) := by
          show _ ≤ _
          rw [spots_length]
          have : c * R ≤ 24 * R := Nat.mul_le_mul_right _ (by omega)
          omega
        clear hown hbi
        generalize (spots R (c * R + r)).length = n1 at *
        by_cases hr : r < R
        · have HSZ : Hid (w.heap.size + 1 ≤ wr.heap.size) := Nat.le_trans lt HBI.out.size
          go_wp2_with (at_builtin; refine wpList_append_spot _ rfl (.tmp 23) (.tmp 27) rfl (w.heap.size + 1) (.slice ao1 n1 cap1) (spots R (c * R + r)) rfl (HO2.out.alloc _) wr.heap.size r c rfl (by go_simp) (by go_simp) (by rw [spots_length]; have : c * R ≤ 24 * R := Nat.mul_le_mul_right _ (by omega); omega) (by have := HSZ.out; simp; omega) ?_; intro v' w2 hown1 hg)
          go_roundw
          case rel =>
            refine ⟨r + 1, by omega, by go_num, ?_, ?_⟩
            · rw [← Nat.add_assoc, spots_next hr]; exact hown1
            · exact below_grown (HBI.out.alloc HSZ.out _) (HO2.out.alloc _) hg (by have := HSZ.out; simp; omega)
          case measure => simp [intOf]; omega
        · have HE : Hid (c * R + r = (c + 1) * R) := by show _ = _; rw [Nat.succ_mul]; omega
          go_wp2
          go_roundw
          case rel => exact ⟨c + 1, by omega, by go_num, by rw [← HE.out]; exact HO2.out, HBI.out⟩
          case measure => simp [intOf]; omega
    · have HE : Hid (c = C) := by show _ = _; omega
      go_wp2
      refine bodyPost_ret (v := .tuple #[.slice ao0 n0 cap0, .int .i64 0]) (by simp [results, Tryz.results66, go_sem]) rfl ⟨_, rfl, ?_, hB.trans (HBO.out.mono (by omega))⟩
      have := HO.out
      rwa [HE.out] at this

end Go.Proofs.YtjappkfhballhaaGreat
