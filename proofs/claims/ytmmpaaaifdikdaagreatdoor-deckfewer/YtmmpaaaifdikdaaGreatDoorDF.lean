/- Lines of a text; deck.tellingLines walked. -/
import Derived.Test.YtmmpaaaifdikdaaGreatDoorShow
import Derived.Test.YtmmpaaaifdikdaaGreatDoorDA
namespace Go.Proofs.YtmmpaaaifdikdaaGreatDoor
open Go.RowKit Go.Shelf

theorem ix_none : ∀ {l : List UInt8}, (10 : UInt8) ∉ l → Lib.index l [10] = -1
  | [], _ => rfl
  | b :: l, h => by
    have hb : (10 : UInt8) ≠ b := fun e => h (by simp [e])
    have := ix_none (l := l) (fun e => h (by simp [e]))
    simp [Lib.index, List.isPrefixOf, this, hb]
theorem ix_some : ∀ {a r : List UInt8}, (10 : UInt8) ∉ a → Lib.index (a ++ 10 :: r) [10] = a.length
  | [], r, _ => by simp [Lib.index, List.isPrefixOf]
  | b :: a, r, h => by
    have hb : (10 : UInt8) ≠ b := fun e => h (by simp [e])
    have := ix_some (a := a) (r := r) (fun e => h (by simp [e]))
    simp only [List.cons_append, Lib.index, List.isPrefixOf, this]
    rw [if_neg (by simp [hb]), if_neg (by simp <;> omega)]
    simp
theorem cut_none {l : List UInt8} (h : (10 : UInt8) ∉ l) : Lib.cut l [10] = (l, [], false) := by
  unfold Lib.cut
  rw [ix_none h]; rfl
theorem cut_some {a r : List UInt8} (h : (10 : UInt8) ∉ a) : Lib.cut (a ++ 10 :: r) [10] = (a, r, true) := by
  unfold Lib.cut
  rw [ix_some h, if_pos (by omega)]
  simp
theorem one_le_len {l : List UInt8} (h : l ≠ []) : 1 ≤ l.length := by cases l <;> simp_all
theorem beq_nil {l : List UInt8} (h : l ≠ []) : (l == []) = false := by cases l <;> simp_all
/-- The lines of a text with their numbers; none is empty. -/
def LinesR : List (Nat × List UInt8) → List UInt8 → Nat → Prop
  | [], u, _ => u = []
  | p :: ls, u, n => (p.1 = n ∧ p.2 ≠ [] ∧ (10 : UInt8) ∉ p.2) ∧ ((u = p.2 ∧ ls = []) ∨ ∃ r, u = p.2 ++ 10 :: r ∧ LinesR ls r (n + 1))
def Lines (u : List UInt8) (n : Nat) (ls : List (Nat × List UInt8)) : Prop := LinesR ls u n
theorem Lines.nil (n : Nat) : Lines [] n [] := rfl
theorem Lines.last (l : List UInt8) (n : Nat) (h : l ≠ []) (h2 : (10 : UInt8) ∉ l) : Lines l n [(n, l)] := ⟨⟨rfl, h, h2⟩, .inl ⟨rfl, rfl⟩⟩
theorem Lines.more (l r : List UInt8) (n : Nat) (ls : List (Nat × List UInt8)) (h : l ≠ []) (h2 : (10 : UInt8) ∉ l) (h3 : Lines r (n + 1) ls) : Lines (l ++ 10 :: r) n ((n, l) :: ls) := ⟨⟨rfl, h, h2⟩, .inr ⟨r, rfl, h3⟩⟩
theorem Lines.ways {u : List UInt8} {n : Nat} {ls : List (Nat × List UInt8)} (h : Lines u n ls) : (u = [] ∧ ls = []) ∨ (u ≠ [] ∧ (10 : UInt8) ∉ u ∧ ls = [(n, u)]) ∨ ∃ l r ls', l ≠ [] ∧ (10 : UInt8) ∉ l ∧ u = l ++ 10 :: r ∧ ls = (n, l) :: ls' ∧ Lines r (n + 1) ls' := by
  cases ls with
  | nil => exact .inl ⟨h, rfl⟩
  | cons p ls =>
    obtain ⟨⟨h1, h2, h3⟩, ⟨h4, h5⟩ | ⟨r, h4, h5⟩⟩ := h
    · refine .inr (.inl ⟨by rw [h4]; exact h2, by rw [h4]; exact h3, ?_⟩)
      rw [h4, h5, ← h1]
    · refine .inr (.inr ⟨p.2, r, ls, h2, h3, h4, ?_, h5⟩)
      rw [← h1]
theorem owns_later {w w' : World} {base e k n : Nat} {v : Value} {cs : List Value} (h : w.ownsRow base e k v n cs) (hb : Below w.heap.size w w') : w'.ownsRow base e k v n cs := by
  refine ⟨h.1, h.2.elim .inl fun ⟨g, cap, cur, h1, h2, h3, h4⟩ => .inr ⟨g, cap, cur, h1, h2, ?_, h4⟩⟩
  rw [hb.block g (Array.getElem?_eq_some_iff.1 h3).1]; exact h3
theorem Tryz.info122 : (Tryz.prog.info? 122).map (fun i => (i.zero, i.size, i.bytes)) = some (some (.agg #[.int .i64 0, .string ⟨#[]⟩]), 2, 24) := by kernel_rfl
/-- Lines as cells. -/
def cellsN (ps : List (Nat × List UInt8)) : List Value := ps.flatMap fun p => [.int .i64 p.1, .string ⟨p.2.toArray⟩]
theorem cellsN_length (ps : List (Nat × List UInt8)) : (cellsN ps).length = ps.length * 2 := by
  induction ps with
  | nil => rfl
  | cons p ps ih => simp only [cellsN, List.flatMap_cons, List.length_append, List.length_cons, List.length_nil] at ih ⊢; omega
theorem cellsN_append (a b : List (Nat × List UInt8)) : cellsN (a ++ b) = cellsN a ++ cellsN b := by simp [cellsN]
theorem cellsN_one (p : Nat × List UInt8) : cellsN [p] = [.int .i64 p.1, .string ⟨p.2.toArray⟩] := by simp [cellsN]
theorem cellsN_at {ps : List (Nat × List UInt8)} {k : Nat} (h : k < ps.length) : (cellsN ps)[k * 2]? = some (.int .i64 (ps[k]'h).1) ∧ (cellsN ps)[k * 2 + 1]? = some (.string ⟨(ps[k]'h).2.toArray⟩) := by
  have e : ps = ps.take k ++ ps[k]'h :: ps.drop (k + 1) := by rw [← List.drop_eq_getElem_cons h, List.take_append_drop]
  have e2 : cellsN ps = cellsN (ps.take k) ++ ([.int .i64 (ps[k]'h).1, .string ⟨(ps[k]'h).2.toArray⟩] ++ cellsN (ps.drop (k + 1))) := by
    conv => lhs; rw [e]
    rw [cellsN_append]; rfl
  have hl : (cellsN (ps.take k)).length = k * 2 := by rw [cellsN_length, List.length_take, Nat.min_eq_left (by omega)]
  rw [e2]
  constructor
  · rw [List.getElem?_append_right (by omega), hl]; simp
  · rw [List.getElem?_append_right (by omega), hl]; simp
/-- The call's own lines. -/
def OwnN (w : World) (base : Nat) (v : Value) (ps : List (Nat × List UInt8)) : Prop := w.ownsRow base 122 2 v ps.length (cellsN ps)
theorem OwnN.nil (w : World) (base : Nat) : OwnN w base (.slice none 0 0) [] := World.ownsRow_nil w base 122 2
theorem OwnN.shape {w : World} {base : Nat} {v : Value} {ps : List (Nat × List UInt8)} (h : OwnN w base v ps) : ∃ ao cap, v = .slice ao ps.length cap := by
  rcases h.2 with ⟨h1, h2⟩ | ⟨g, cap, cur, h1, _⟩
  · exact ⟨none, 0, by rw [h1, h2]⟩
  · exact ⟨_, _, h1⟩
theorem OwnN.later {w w' : World} {base : Nat} {v : Value} {ps : List (Nat × List UInt8)} (h : OwnN w base v ps) (hb : Below w.heap.size w w') : OwnN w' base v ps := owns_later h hb
theorem OwnN.read {w : World} {base : Nat} {v : Value} {ps : List (Nat × List UInt8)} (h : OwnN w base v ps) : ps = [] ∨ ∃ g cap, v = .slice (some ⟨g, 0, none⟩) ps.length cap ∧ g < w.heap.size ∧
    ∀ k (hk : k < ps.length), w.cell? ⟨g, k * 2, none⟩ = some (.int .i64 (ps[k]'hk).1) ∧ w.cell? ⟨g, k * 2 + 1, none⟩ = some (.string ⟨(ps[k]'hk).2.toArray⟩) := by
  rcases h.2 with ⟨h1, h2⟩ | ⟨g, cap', cur, h1, h2, h3, h4⟩
  · exact .inl (List.eq_nil_of_length_eq_zero h2)
  · subst h1
    refine .inr ⟨g, cap', rfl, (Array.getElem?_eq_some_iff.1 h3).1, fun k hk => ?_⟩
    have c := cellsN_at hk
    have e1 := World.ownsRow.cellAt h (k * 2) (by omega)
    have e2 := World.ownsRow.cellAt h (k * 2 + 1) (by omega)
    exact ⟨e1.trans c.1, e2.trans c.2⟩
/-- One line appended to the call's own. -/
theorem wpList_append_line (w : World) {ops : Array Oper} {rest : List Oper} {o : Oper} {a : Act} {Q : Exit → Act → World → Prop} (hgd : o.guard = none) (s x : Operand)
    (ho : o.op = .call { callee := .builtin .append, args := #[s, x], argTypes := #[73, 73] }) (base : Nat) (v : Value) (ps : List (Nat × List UInt8)) (hs : a.eval s = v) (hown : OwnN w base v ps)
    (b : Nat) (r : Nat) (c : List UInt8) (hx : a.eval x = .slice (some ⟨b, 0, none⟩) 1 1) (h0 : w.cell? ⟨b, 0, none⟩ = some (.int .i64 r)) (h1 : w.cell? ⟨b, 1, none⟩ = some (.string ⟨c.toArray⟩))
    (hlen : ps.length ≤ 1000000000000) (hbase : base ≤ w.heap.size)
    (h : ∀ v' w', OwnN w' base v' (ps ++ [(r, c)]) → w.grownBy w' v.ownBlock → wpList Tryz.prog ops Q rest (a.put o.dst v') w') :
    wpList Tryz.prog ops Q (o :: rest) a w := by
  obtain ⟨i0, hi, hz0, hz1, hz2⟩ := info_parts Tryz.info122
  refine wpList_append_own_at w hgd s x 73 ho base 122 i0 (.agg #[.int .i64 0, .string ⟨#[]⟩]) 2 24 Tryz.underlying73 hi hz0 hz1 hz2 rfl (by decide) v ps.length (cellsN ps) hs hown ⟨b, 0, none⟩ 1 1 [.int .i64 r, .string ⟨c.toArray⟩] hx rfl ?_ ?_ ?_ ?_ hbase ?_
  · intro j u hj
    match j, hj with
    | 0, hj => simp at hj; subst hj; simpa [Addr.add] using h0
    | 1, hj => simp at hj; subst hj; simpa [Addr.add] using h1
  · intro u hu
    simp at hu
    rcases hu with rfl | rfl <;> rfl
  · unfold maxLen; omega
  · omega
  · intro v' w' h1 h2 _ h4
    refine h v' w' ?_ h2
    unfold OwnN
    rw [cellsN_append, cellsN_one, List.length_append]
    exact h1
theorem below_owns {base e k n : Nat} {a w w' : World} {v : Value} {cs : List Value} (h : Below base a w) (ho : w.ownsRow base e k v n cs) (hg : w.grownBy w' v.ownBlock) (hB : base ≤ w.heap.size) : Below base a w' :=
  h.grown hg hB (fun k hk => (World.ownsRow.lt ho k hk).1)
/-- How long a text in a slot is. -/
def strLen (v : Value) : Nat := match v with
  | .string s => s.size
  | _ => 0

set_option maxHeartbeats 6400000 in
set_option maxRecDepth 100000 in
theorem tellingLines_any (u : List UInt8) (ls : List (Nat × List UInt8)) (w : World) (hT : Tabs w) (hu : u.length < 4294967281) (hL : Lines u 1 ls) (h12 : ls.length ≤ 12) :
    Calls Tryz.prog 27 #[.string ⟨u.toArray⟩] w fun e w' => ∃ v, e = .returned v ∧ OwnN w' w.heap.size v ls ∧ Below w.heap.size w w' := by
  have HT : Hid (Tabs w) := hT
  have HLS : Hid (Lines u 1 ls) := hL
  have HN : Hid (ls.length ≤ 12) := h12
  clear hT hL h12
  go_enter Tryz.func27, Tryz.ntmps27
  go_wp2
  go_loopw [0, 3, 4] (fun t v i wr => ∃ (u' : List UInt8) (num : Nat) (acc rest : List (Nat × List UInt8)), t = .string ⟨u'.toArray⟩ ∧ i = .int .i64 num ∧ OwnN wr w.heap.size v acc ∧ Lines u' num rest ∧ acc ++ rest = ls ∧ 1 ≤ num ∧ num + u'.length ≤ u.length + 1 ∧ Below w.heap.size w wr) (fun t _ _ _ => strLen t)
  case atStart => exact ⟨u, 1, [], ls, rfl, rfl, OwnN.nil _ _, HLS.out, rfl, by omega, by omega, Below.refl _ _⟩
  case round =>
    obtain ⟨u', num, acc, rest, rfl, rfl, hown, hlines, hcat, hnum0, hnum, hb⟩ := hrel
    obtain ⟨ao, cap, rfl⟩ := hown.shape
    obtain ⟨n0, hn0⟩ : ∃ n0, n0 = acc.length := ⟨_, rfl⟩
    rw [← hn0] at hown ⊢
    have HO : Hid (OwnN wr w.heap.size (.slice ao n0 cap) acc) := hown
    have HB : Hid (Below w.heap.size w wr) := hb
    have HCAT : Hid (acc ++ rest = ls) := hcat
    have HA2 : Hid (acc.length ≤ 12) := by have := congrArg List.length hcat; rw [List.length_append] at this; have := HN.out; show _ ≤ _; omega
    have hn12 : n0 ≤ 12 := by rw [hn0]; exact HA2.out
    obtain ⟨m, hm⟩ := (HT.out.next HB.out).most
    have HLI : Hid (Lines u' num rest) := hlines
    clear hown hb hcat hn0 hlines
    rcases HLI.out.ways with ⟨rfl, rfl⟩ | ⟨hne, hno, rfl⟩ | ⟨l, r, ls', hne, hno, rfl, rfl, hr⟩
    · have HE : Hid (acc = ls) := by have := HCAT.out; rwa [List.append_nil] at this
      go_wp2
      go_ret
      exact ⟨_, rfl, by rw [← HE.out]; exact HO.out, HB.out⟩
    · have HC : Hid (Lib.cut u' [10] = (u', [], false)) := cut_none hno
      have hq : (u' == []) = false := beq_nil hne
      have HP : Hid (1 ≤ u'.length) := one_le_len hne
      have hcall := Tryz.strings_Cut ⟨u'.toArray⟩ ⟨#[10]⟩ m wr (by simp [ByteArray.size]; omega) hm
      simp only [HC.out] at hcall
      have HCALL : Hid (Calls Tryz.prog 59 #[.string ⟨u'.toArray⟩, .string ⟨#[10]⟩] wr fun e w' => e = .returned (.tuple #[.string ⟨u'.toArray⟩, .string ⟨#[]⟩, .bool false]) ∧ ∃ n, w' = wr.drewN n) := hcall
      clear hcall hm hne hno
      go_wp2_with fail
      refine Calls.mono HCALL.out ?_
      rintro e w1 ⟨rfl, nq, hw1⟩
      have hbW : Below wr.heap.size wr w1 := by rw [hw1]; exact below_drewN (Below.refl _ _) _
      have HB1 : Hid (Below w.heap.size w w1) := HB.out.trans (hbW.mono HB.out.size)
      have HO1 : Hid (OwnN w1 w.heap.size (.slice ao n0 cap) acc) := HO.out.later hbW
      clear hw1 hbW HO HB HCALL
      go_wp2_with (at_builtin; refine wpList_append_line _ rfl (.tmp 25) (.tmp 29) rfl w.heap.size (.slice ao n0 cap) acc rfl (HO1.out.later ((Below.refl _ _).alloc (Nat.le_refl _) _)) w1.heap.size num u' rfl (by go_simp) (by go_simp) (by have := HA2.out; omega) (by have := HB1.out.size; simp; omega) ?_; intro v' w2 hown1 hg)
      go_roundw
      case rel =>
        exact ⟨[], num + 1, acc ++ [(num, u')], [], rfl, by go_num, hown1, Lines.nil _, by rw [List.append_assoc]; exact HCAT.out, by omega, by have := HP.out; simp; omega, below_owns (HB1.out.alloc HB1.out.size _) (HO1.out.later ((Below.refl _ _).alloc (Nat.le_refl _) _)) hg (by have := HB1.out.size; simp; omega)⟩
      case measure => have := HP.out; simp [strLen, ByteArray.size] <;> omega
    · have HC : Hid (Lib.cut (l ++ 10 :: r) [10] = (l, r, true)) := cut_some hno
      have hq : ((l ++ 10 :: r : List UInt8) == []) = false := by cases l <;> simp
      have hq2 : (l == []) = false := beq_nil hne
      have HR : Hid (Lines r (num + 1) ls') := hr
      have HP : Hid (1 ≤ l.length) := one_le_len hne
      have hsz : (l ++ 10 :: r).length = l.length + 1 + r.length := by simp; omega
      have hcall := Tryz.strings_Cut ⟨(l ++ 10 :: r).toArray⟩ ⟨#[10]⟩ m wr (by simp [ByteArray.size]; omega) hm
      simp only [HC.out] at hcall
      obtain ⟨u2, hu2⟩ : ∃ u2, u2 = l ++ 10 :: r := ⟨_, rfl⟩
      rw [← hu2] at hcall hsz hq hnum ⊢
      have HCALL : Hid (Calls Tryz.prog 59 #[.string ⟨u2.toArray⟩, .string ⟨#[10]⟩] wr fun e w' => e = .returned (.tuple #[.string ⟨l.toArray⟩, .string ⟨r.toArray⟩, .bool true]) ∧ ∃ n, w' = wr.drewN n) := hcall
      have HSZ : Hid (u2.length = l.length + 1 + r.length) := hsz
      have HNUM : Hid (num + u2.length ≤ u.length + 1) := hnum
      have hnb : num ≤ 4294967290 := by omega
      clear hcall hm hne hno hr hsz hu2 hnum
      go_wp2_with fail
      refine Calls.mono HCALL.out ?_
      rintro e w1 ⟨rfl, nq, hw1⟩
      have hbW : Below wr.heap.size wr w1 := by rw [hw1]; exact below_drewN (Below.refl _ _) _
      have HB1 : Hid (Below w.heap.size w w1) := HB.out.trans (hbW.mono HB.out.size)
      have HO1 : Hid (OwnN w1 w.heap.size (.slice ao n0 cap) acc) := HO.out.later hbW
      clear hw1 hbW HO HB HCALL
      go_wp2_with (at_builtin; refine wpList_append_line _ rfl (.tmp 25) (.tmp 29) rfl w.heap.size (.slice ao n0 cap) acc rfl (HO1.out.later ((Below.refl _ _).alloc (Nat.le_refl _) _)) w1.heap.size num l rfl (by go_simp) (by go_simp) (by have := HA2.out; omega) (by have := HB1.out.size; simp; omega) ?_; intro v' w2 hown1 hg)
      go_roundw
      case rel =>
        exact ⟨r, num + 1, acc ++ [(num, l)], ls', rfl, by go_num, hown1, HR.out, by rw [List.append_assoc]; exact HCAT.out, by omega, by have := HP.out; have := HSZ.out; have := HNUM.out; omega, below_owns (HB1.out.alloc HB1.out.size _) (HO1.out.later ((Below.refl _ _).alloc (Nat.le_refl _) _)) hg (by have := HB1.out.size; simp; omega)⟩
      case measure => have := HP.out; have := HSZ.out; simp [strLen, ByteArray.size] <;> omega

end Go.Proofs.YtmmpaaaifdikdaaGreatDoor
