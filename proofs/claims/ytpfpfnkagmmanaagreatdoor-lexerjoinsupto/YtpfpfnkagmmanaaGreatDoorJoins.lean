/- The law LexerJoins walked. -/
import Derived.Test.YtpfpfnkagmmanaaGreatDoorJn
import Derived.Test.YtpfpfnkagmmanaaGreatDoorRJn
import Derived.Test.YtpfpfnkagmmanaaGreatDoorLn
import Derived.Test.YtpfpfnkagmmanaaGreatDoorSLn
namespace Go.Proofs.YtpfpfnkagmmanaaGreatDoor
open Go.RowKit Go.Shelf

theorem cellsT_cell {l : List Tk} : ∀ u ∈ cellsT l, u.oneCell' = true := by
  intro u hu
  obtain ⟨b, _, hb⟩ := List.mem_flatMap.1 hu
  simp only [List.mem_cons, List.mem_nil_iff, or_false] at hb
  rcases hb with rfl | rfl | rfl <;> rfl
theorem Tks.cells {w : World} {ad : Addr} {l : List Tk} (h : Tks w (some ad) l) : ∀ j u, (cellsT l)[j]? = some u → w.cell? (ad.add j) = some u := by
  intro j u hj
  have hlt : j < l.length * 3 := by
    have := (List.getElem?_eq_some_iff.1 hj).1
    rw [cellsT_length] at this
    exact this
  rcases h with rfl | ⟨b, off, e, hc⟩
  · simp at hlt
  · injection e with e
    subst e
    have hk : j / 3 < l.length := by omega
    obtain ⟨t0, t1, t2⟩ := cellsT_at hk
    obtain ⟨_, c0, c1, c2⟩ := hc (j / 3) hk
    rw [Addr.add_lit]
    generalize l[j / 3]'hk = x at *
    rcases (show j % 3 = 0 ∨ j % 3 = 1 ∨ j % 3 = 2 by omega) with e | e | e
    · rw [show j / 3 * 3 = j by omega, hj] at t0
      injection t0 with t0
      subst t0
      rw [show off + j = off + j / 3 * 3 by omega]; exact c0
    · rw [show j / 3 * 3 + 1 = j by omega, hj] at t1
      injection t1 with t1
      subst t1
      rw [show off + j = off + j / 3 * 3 + 1 by omega]; exact c1
    · rw [show j / 3 * 3 + 2 = j by omega, hj] at t2
      injection t2 with t2
      subst t2
      rw [show off + j = off + j / 3 * 3 + 2 by omega]; exact c2
/-- Tokens appended to the call's own. -/
theorem wpList_append_toks (w : World) {ops : Array Oper} {rest : List Oper} {o : Oper} {a : Act} {Q : Exit → Act → World → Prop} (hgd : o.guard = none) (s x : Operand)
    (ho : o.op = .call { callee := .builtin .append, args := #[s, x], argTypes := #[22, 22] }) (base : Nat) (v : Value) (ps : List Tk) (hs : a.eval s = v) (hown : OwnT w base v ps)
    (ad : Addr) (c : Nat) (l : List Tk) (hx : a.eval x = .slice (some ad) l.length c) (hq : Tks w (some ad) l) (hlen : (ps.length + l.length) * 32 ≤ 140737488355328) (hbase : base ≤ w.heap.size)
    (h : ∀ v' w', OwnT w' base v' (ps ++ l) → w.grownBy w' v.ownBlock → wpList Tryz.prog ops Q rest (a.put o.dst v') w') :
    wpList Tryz.prog ops Q (o :: rest) a w := by
  obtain ⟨i0, hi, hz0, hz1, hz2⟩ := info_parts Tryz.infoT
  refine wpList_append_own_at w hgd s x 22 ho base 36 i0 (.agg #[.int .i64 0, .string ⟨#[]⟩, .int .i64 0]) 3 32 Tryz.underlying22 hi hz0 hz1 hz2 rfl (by decide) v ps.length (cellsT ps) hs hown ad l.length c (cellsT l) hx (cellsT_length l) hq.cells cellsT_cell ?_ ?_ hbase ?_
  · unfold maxLen; omega
  · exact hlen
  · intro v' w' h1 h2 _ h4
    refine h v' w' ?_ h2
    unfold OwnT
    rw [List.length_append, cellsT_append]; exact h1
set_option maxHeartbeats 6400000 in
set_option maxRecDepth 100000 in
theorem joins_none (ao : Option Addr) (cap : Nat) (l : List Tk) (u : List UInt8) (n : Int) (w : World) (hT : Tab w) (hL : Tks w ao l) (hnil : ao = none → cap = 0) (hl : l.length ≤ 1048576) (ht : ∀ p ∈ l, p.t.length ≤ 1048576) (hu : u.length ≤ 1048576)
    (hn : -9223372036854775808 ≤ n ∧ n ≤ 9223372036854775807) (ho : look n (lns (trimN u)) 1 = none) :
    Calls Tryz.prog 3 #[.slice ao l.length cap, .string ⟨u.toArray⟩, .int .i64 n] w fun e w' => e = .returned (.bool true) ∧ Below w.heap.size w w' := by
  have HT : Hid (Tab w) := hT
  have HL : Hid (Tks w ao l) := hL
  have HN : Hid (∀ W a c, Tab W → Tks W a l → Calls Tryz.prog 4 #[.slice a l.length c] W fun e w' => ∃ s x, e = .returned (.tuple #[.string ⟨s.toArray⟩, .int .i64 x]) ∧ Joins l s x ∧ Below W.heap.size W w') := fun W a c h1 h2 => join_any a c l W h1 h2 (by omega) ht
  have HR : Hid (∀ W, Tks W ao l → Calls Tryz.prog 5 #[.slice ao l.length cap] W fun e w' => ∃ s x, e = .returned (.tuple #[.string ⟨s.toArray⟩, .int .i64 x]) ∧ Joins l s x ∧ Below W.heap.size W w') := fun W h => refJoin_any ao cap l W h hl ht
  have HA : Hid (∀ W, Calls Tryz.prog 6 #[.string ⟨u.toArray⟩, .int .i64 n] W fun e w' => e = .returned (.tuple #[.string ⟨([] : List UInt8).toArray⟩, .int .i64 2]) ∧ Below W.heap.size W w') := fun W => line_any u n none W (by omega) ho
  have HS : Hid (∀ W, Calls Tryz.prog 7 #[.string ⟨u.toArray⟩, .int .i64 n] W fun e w' => e = .returned (.tuple #[.string ⟨([] : List UInt8).toArray⟩, .bool false]) ∧ Below W.heap.size W w') := fun W => sourceLine_any u n none W hu hn ho
  clear hT hL ht ho
  cases ao with
  | none =>
    obtain rfl : l = [] := by
      rcases HL.out with h | ⟨b, off, h, _⟩
      · exact h
      · cases h
    obtain rfl := hnil rfl
    simp only [List.length_nil] at HN HR ⊢
    clear hnil hl hu hn
    go_enter Tryz.func3, Tryz.ntmps3
    go_wp2_with fail
    refine Calls.mono (HN.out w none 0 HT.out (Tks.nil _ _)) ?_
    rintro x w2 ⟨s, y, rfl, hj2, hb2⟩
    have HB2 : Hid (Below w.heap.size w w2) := hb2
    have HJ2 : Hid (Joins [] s y) := hj2
    clear hb2 hj2
    go_wp2_with fail
    refine Calls.mono (HR.out w2 (Tks.nil _ _)) ?_
    rintro x w3 ⟨s', y', rfl, hj3, hb3⟩
    have HB3 : Hid (Below w.heap.size w w3) := below_on HB2.out hb3
    obtain ⟨rfl, rfl⟩ := HJ2.out.one hj3
    clear hb3 hj3
    go_wp2_with fail
    refine Calls.mono (HA.out w3) ?_
    rintro x w4 ⟨rfl, hb4⟩
    have HB4 : Hid (Below w.heap.size w w4) := below_on HB3.out hb4
    clear hb4
    go_wp2_with fail
    refine Calls.mono (HS.out w4) ?_
    rintro x w5 ⟨rfl, hb5⟩
    have HB5 : Hid (Below w.heap.size w w5) := below_on HB4.out hb5
    clear hb5
    go_wp2
    go_ret
    exact ⟨rfl, HB5.out⟩
  | some a =>
    clear hnil hu hn
    obtain ⟨m, hm⟩ : ∃ m, m = l.length := ⟨_, rfl⟩
    have HM : Hid (m = l.length) := hm
    rw [← hm] at hl HN HR ⊢
    clear hm
    go_enter Tryz.func3, Tryz.ntmps3
    go_wp2_with (at_builtin; refine wpList_append_toks _ rfl (.const (.slice none 0 0)) (.tmp 16) rfl w.heap.size (.slice none 0 0) [] rfl (OwnT.nil _ _) a cap l (by rw [← HM.out]; rfl) HL.out (by rw [← HM.out]; simp; omega) (Nat.le_refl _) ?_; intro v1 w1 ho hg)
    rw [List.nil_append] at ho
    have HB1 : Hid (Below w.heap.size w w1) := (Below.refl _ _).grown hg (Nat.le_refl _) (fun k hk => by cases hk)
    obtain ⟨a1, c1, rfl, hk1⟩ := ho.tks
    have HK1 : Hid (Tks w1 a1 l) := hk1
    rw [← HM.out]
    clear ho hg hk1
    go_wp2_with fail
    refine Calls.mono (HN.out w1 a1 c1 (HT.out.next HB1.out) HK1.out) ?_
    rintro x w2 ⟨s, y, rfl, hj2, hb2⟩
    have HB2 : Hid (Below w.heap.size w w2) := below_on HB1.out hb2
    have HJ2 : Hid (Joins l s y) := hj2
    clear hb2 hj2
    go_wp2_with fail
    refine Calls.mono (HR.out w2 (HL.out.next HB2.out)) ?_
    rintro x w3 ⟨s', y', rfl, hj3, hb3⟩
    have HB3 : Hid (Below w.heap.size w w3) := below_on HB2.out hb3
    obtain ⟨rfl, rfl⟩ := HJ2.out.one hj3
    clear hb3 hj3
    go_wp2_with fail
    refine Calls.mono (HA.out w3) ?_
    rintro x w4 ⟨rfl, hb4⟩
    have HB4 : Hid (Below w.heap.size w w4) := below_on HB3.out hb4
    clear hb4
    go_wp2_with fail
    refine Calls.mono (HS.out w4) ?_
    rintro x w5 ⟨rfl, hb5⟩
    have HB5 : Hid (Below w.heap.size w w5) := below_on HB4.out hb5
    clear hb5
    go_wp2
    go_ret
    exact ⟨rfl, HB5.out⟩
set_option maxHeartbeats 6400000 in
set_option maxRecDepth 100000 in
theorem joins_some (ao : Option Addr) (cap : Nat) (l : List Tk) (u : List UInt8) (n : Int) (w : World) (hT : Tab w) (hL : Tks w ao l) (hnil : ao = none → cap = 0) (hl : l.length ≤ 1048576) (ht : ∀ p ∈ l, p.t.length ≤ 1048576) (hu : u.length ≤ 1048576)
    (hn : -9223372036854775808 ≤ n ∧ n ≤ 9223372036854775807) (z : List UInt8) (ho : look n (lns (trimN u)) 1 = some z) :
    Calls Tryz.prog 3 #[.slice ao l.length cap, .string ⟨u.toArray⟩, .int .i64 n] w fun e w' => e = .returned (.bool true) ∧ Below w.heap.size w w' := by
  have HT : Hid (Tab w) := hT
  have HL : Hid (Tks w ao l) := hL
  have HN : Hid (∀ W a c, Tab W → Tks W a l → Calls Tryz.prog 4 #[.slice a l.length c] W fun e w' => ∃ s x, e = .returned (.tuple #[.string ⟨s.toArray⟩, .int .i64 x]) ∧ Joins l s x ∧ Below W.heap.size W w') := fun W a c h1 h2 => join_any a c l W h1 h2 (by omega) ht
  have HR : Hid (∀ W, Tks W ao l → Calls Tryz.prog 5 #[.slice ao l.length cap] W fun e w' => ∃ s x, e = .returned (.tuple #[.string ⟨s.toArray⟩, .int .i64 x]) ∧ Joins l s x ∧ Below W.heap.size W w') := fun W h => refJoin_any ao cap l W h hl ht
  have HA : Hid (∀ W, Calls Tryz.prog 6 #[.string ⟨u.toArray⟩, .int .i64 n] W fun e w' => e = .returned (.tuple #[.string ⟨(z : List UInt8).toArray⟩, .int .i64 0]) ∧ Below W.heap.size W w') := fun W => line_any u n (some z) W (by omega) ho
  have HS : Hid (∀ W, Calls Tryz.prog 7 #[.string ⟨u.toArray⟩, .int .i64 n] W fun e w' => e = .returned (.tuple #[.string ⟨(z : List UInt8).toArray⟩, .bool true]) ∧ Below W.heap.size W w') := fun W => sourceLine_any u n (some z) W hu hn ho
  clear hT hL ht ho
  cases ao with
  | none =>
    obtain rfl : l = [] := by
      rcases HL.out with h | ⟨b, off, h, _⟩
      · exact h
      · cases h
    obtain rfl := hnil rfl
    simp only [List.length_nil] at HN HR ⊢
    clear hnil hl hu hn
    go_enter Tryz.func3, Tryz.ntmps3
    go_wp2_with fail
    refine Calls.mono (HN.out w none 0 HT.out (Tks.nil _ _)) ?_
    rintro x w2 ⟨s, y, rfl, hj2, hb2⟩
    have HB2 : Hid (Below w.heap.size w w2) := hb2
    have HJ2 : Hid (Joins [] s y) := hj2
    clear hb2 hj2
    go_wp2_with fail
    refine Calls.mono (HR.out w2 (Tks.nil _ _)) ?_
    rintro x w3 ⟨s', y', rfl, hj3, hb3⟩
    have HB3 : Hid (Below w.heap.size w w3) := below_on HB2.out hb3
    obtain ⟨rfl, rfl⟩ := HJ2.out.one hj3
    clear hb3 hj3
    go_wp2_with fail
    refine Calls.mono (HA.out w3) ?_
    rintro x w4 ⟨rfl, hb4⟩
    have HB4 : Hid (Below w.heap.size w w4) := below_on HB3.out hb4
    clear hb4
    go_wp2_with fail
    refine Calls.mono (HS.out w4) ?_
    rintro x w5 ⟨rfl, hb5⟩
    have HB5 : Hid (Below w.heap.size w w5) := below_on HB4.out hb5
    clear hb5
    go_wp2
    go_ret
    exact ⟨rfl, HB5.out⟩
  | some a =>
    clear hnil hu hn
    obtain ⟨m, hm⟩ : ∃ m, m = l.length := ⟨_, rfl⟩
    have HM : Hid (m = l.length) := hm
    rw [← hm] at hl HN HR ⊢
    clear hm
    go_enter Tryz.func3, Tryz.ntmps3
    go_wp2_with (at_builtin; refine wpList_append_toks _ rfl (.const (.slice none 0 0)) (.tmp 16) rfl w.heap.size (.slice none 0 0) [] rfl (OwnT.nil _ _) a cap l (by rw [← HM.out]; rfl) HL.out (by rw [← HM.out]; simp; omega) (Nat.le_refl _) ?_; intro v1 w1 ho hg)
    rw [List.nil_append] at ho
    have HB1 : Hid (Below w.heap.size w w1) := (Below.refl _ _).grown hg (Nat.le_refl _) (fun k hk => by cases hk)
    obtain ⟨a1, c1, rfl, hk1⟩ := ho.tks
    have HK1 : Hid (Tks w1 a1 l) := hk1
    rw [← HM.out]
    clear ho hg hk1
    go_wp2_with fail
    refine Calls.mono (HN.out w1 a1 c1 (HT.out.next HB1.out) HK1.out) ?_
    rintro x w2 ⟨s, y, rfl, hj2, hb2⟩
    have HB2 : Hid (Below w.heap.size w w2) := below_on HB1.out hb2
    have HJ2 : Hid (Joins l s y) := hj2
    clear hb2 hj2
    go_wp2_with fail
    refine Calls.mono (HR.out w2 (HL.out.next HB2.out)) ?_
    rintro x w3 ⟨s', y', rfl, hj3, hb3⟩
    have HB3 : Hid (Below w.heap.size w w3) := below_on HB2.out hb3
    obtain ⟨rfl, rfl⟩ := HJ2.out.one hj3
    clear hb3 hj3
    go_wp2_with fail
    refine Calls.mono (HA.out w3) ?_
    rintro x w4 ⟨rfl, hb4⟩
    have HB4 : Hid (Below w.heap.size w w4) := below_on HB3.out hb4
    clear hb4
    go_wp2_with fail
    refine Calls.mono (HS.out w4) ?_
    rintro x w5 ⟨rfl, hb5⟩
    have HB5 : Hid (Below w.heap.size w w5) := below_on HB4.out hb5
    clear hb5
    go_wp2
    go_ret
    exact ⟨rfl, HB5.out⟩
theorem joins_any (ao : Option Addr) (cap : Nat) (l : List Tk) (u : List UInt8) (n : Int) (w : World) (hT : Tab w) (hL : Tks w ao l) (hnil : ao = none → cap = 0) (hl : l.length ≤ 1048576) (ht : ∀ p ∈ l, p.t.length ≤ 1048576) (hu : u.length ≤ 1048576)
    (hn : -9223372036854775808 ≤ n ∧ n ≤ 9223372036854775807) :
    Calls Tryz.prog 3 #[.slice ao l.length cap, .string ⟨u.toArray⟩, .int .i64 n] w fun e w' => e = .returned (.bool true) ∧ Below w.heap.size w w' := by
  cases ho : look n (lns (trimN u)) 1 with
  | none => exact joins_none ao cap l u n w hT hL hnil hl ht hu hn ho
  | some z => exact joins_some ao cap l u n w hT hL hnil hl ht hu hn z ho
end Go.Proofs.YtpfpfnkagmmanaaGreatDoor
