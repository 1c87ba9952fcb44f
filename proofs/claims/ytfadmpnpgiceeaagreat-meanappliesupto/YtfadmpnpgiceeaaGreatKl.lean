import Derived.Test.YtfadmpnpgiceeaaGreatKk
import Derived.Laws.AppendOwnNone

/- workcellref: joinParcels, FluidPut walked. -/
namespace Go.Proofs.YtfadmpnpgiceeaaGreat.F
open Go.RowKit
theorem wpList_append_any (w : World) {ops : Array Oper} {rest : List Oper} {o : Oper} {a : Act} {Q : Exit → Act → World → Prop} (hgd : o.guard = none) (s x : Operand)
  (ho : o.op = .call { callee := .builtin .append, args := #[s, x], argTypes := #[24, 24] }) (base : Nat) (v : Value) (ps : List Pc) (hs : a.eval s = v) (hown : Own w base v ps)
  (ao : Option Addr) (c : Nat) (qs : List Pc) (hx : a.eval x = .slice ao qs.length c) (hq : Fl w ao qs) (hc : ao = none → c = 0)
  (hlen : (ps.length + qs.length) * 24 ≤ 140737488355328) (hbase : base ≤ w.heap.size)
  (h : ∀ v' w', Own w' base v' (ps ++ qs) → w.grownBy w' v.ownBlock → Loc w v v' → wpList Tryz.prog ops Q rest (a.put o.dst v') w') :
  wpList Tryz.prog ops Q (o :: rest) a w := by
 cases ao with
 | none =>
  obtain rfl : qs = [] := by
   rcases hq.2 with h | ⟨b, off, h, _⟩
   ·exact h
   ·cases h
  obtain rfl := hc rfl
  obtain ⟨i0, hi, hz0, hz1, hz2⟩ := info_parts Tryz.info64
  exact wpList_append_own_none hgd s x 24 ho base 64 i0 2 Tryz.underlying24 hi v ps.length (cellsL ps) hs hown hx (h v w (by rw [List.append_nil]; exact hown) ⟨rfl, rfl, rfl, Nat.le_refl _, fun _ _ _ => rfl⟩ (.inl rfl))
 | some ad => exact wpList_append_fl w hgd s x ho base v ps hs hown ad c qs hx hq hlen hbase h
set_option maxHeartbeats 800000 in
theorem join_any (ao ao' : Option Addr) (cap cap' : Nat) (ps qs : List Pc) (w : World) (h : Fl w ao ps) (h' : Fl w ao' qs) (hc : ao = none → cap = 0) (hc' : ao' = none → cap' = 0) (hl : ps.length ≤ 1000) (hl' : qs.length ≤ 1000) :
  Calls Tryz.prog 26 #[.slice ao ps.length cap, .slice ao' qs.length cap'] w fun e w' => ∃ v, e = .returned v ∧ Own w' w.heap.size v (ps ++ qs) ∧ Below w.heap.size w w' := by
 have HF : Hid (Fl w ao ps) := h
 have HF' : Hid (Fl w ao' qs) := h'
 have HC : Hid (ao = none → cap = 0) := hc
 have HC' : Hid (ao' = none → cap' = 0) := hc'
 clear h h' hc hc'
 go_enter Tryz.func26, Tryz.ntmps26
 go_wp2_with (first | (at_builtin; refine wpList_append_any _ rfl (.tmp 6) (.tmp 7) rfl w.heap.size (.slice none 0 0) [] rfl (Own.nil _ _) ao cap ps rfl HF.out HC.out (by simp; omega) (Nat.le_refl _) ?_; intro v' w1 ho hg hloc; have hb : Below w.heap.size w w1 := (brf).grown hg (Nat.le_refl _) (fun k hk => by cases hk)) | (at_builtin; refine wpList_append_any _ rfl (.tmp 9) (.tmp 10) rfl w.heap.size v' ([] ++ ps) rfl ho ao' cap' qs rfl (HF'.out.next hb) HC'.out (by simp; omega) hb.size ?_; intro v2 w2 ho2 hg2 hloc2))
 go_ret
 exact ⟨v2, rfl, ho2, below_grown hb ho hg2 hb.size⟩
def putD (f g : List Pc) : List Pc × Int := if 1000000000 < tot f + tot g then ([], 8) else if 100 < (plainL (f ++ g)).length then ([], 7) else (plainL (f ++ g), 0)
theorem tame_two {f g : List Pc} (h : fref f = 0) (h' : fref g = 0) : Tame (f ++ g) := by
 obtain ⟨h1, h2, h3⟩ := fref_in h
 obtain ⟨k1, k2, k3⟩ := fref_in h'
 exact ⟨h2.nn.append k2.nn, by rw [tot_append]; omega, by rw [List.length_append]; omega⟩
set_option maxHeartbeats 800000 in
theorem fluidPut_any (ao ao' : Option Addr) (cap cap' : Nat) (ps qs : List Pc) (w : World) (h : Fl w ao ps) (h' : Fl w ao' qs) (hc : ao = none → cap = 0) (hc' : ao' = none → cap' = 0) (hr : fref ps = 0) (hr' : fref qs = 0) :
  Calls Tryz.prog 48 #[.slice ao ps.length cap, .slice ao' qs.length cap'] w fun e w' => ∃ v, e = .returned (.tuple #[v, .int .i64 (putD ps qs).2]) ∧ Own w' w.heap.size v (putD ps qs).1 ∧ Below w.heap.size w w' := by
 have HF : Hid (Fl w ao ps) := h
 have HF' : Hid (Fl w ao' qs) := h'
 have HC : Hid (ao = none → cap = 0) := hc
 have HC' : Hid (ao' = none → cap' = 0) := hc'
 have HR : Hid (fref ps = 0) := hr
 have HR' : Hid (fref qs = 0) := hr'
 clear h h' hc hc' hr hr'
 have hi := fref_in HR.out
 have hi' := fref_in HR'.out
 have t0 := tot_nonneg hi.2.1.nn
 have t0' := tot_nonneg hi'.2.1.nn
 have t1 := hi.2.2
 have t1' := hi'.2.2
 have l1 := hi.1
 have l1' := hi'.1
 clear hi hi'
 by_cases ht : 1000000000 < tot ps + tot qs
 ·have HQ : Hid (putD ps qs = ([], 8)) := by unfold putD; rw [if_pos ht]; rfl
  go_enter Tryz.func48, Tryz.ntmps48
  go_wp2_with fail
  refine (fluidTotal_any ao cap ps w HF.out HR.out).mono ?_
  rintro e w1 ⟨rfl, hw1⟩
  obtain rfl := hw1.symm
  clear hw1
  go_wp2_with fail
  refine (fluidTotal_any ao' cap' qs _ HF'.out HR'.out).mono ?_
  rintro e w1 ⟨rfl, hw1⟩
  obtain rfl := hw1.symm
  clear hw1
  go_wp2
  go_ret2
  exact ⟨.slice none 0 0, by rw [HQ.out]; rfl, by rw [HQ.out]; exact Own.nil _ _, brf⟩
 by_cases hl : 100 < (plainL (ps ++ qs)).length
 all_goals
  go_enter Tryz.func48, Tryz.ntmps48
  go_wp2_with fail
  refine (fluidTotal_any ao cap ps w HF.out HR.out).mono ?_
  rintro e w1 ⟨rfl, hw1⟩
  obtain rfl := hw1.symm
  clear hw1
  go_wp2_with fail
  refine (fluidTotal_any ao' cap' qs _ HF'.out HR'.out).mono ?_
  rintro e w1 ⟨rfl, hw1⟩
  obtain rfl := hw1.symm
  clear hw1
  go_wp2_with fail
  refine (join_any ao ao' cap cap' ps qs _ HF.out HF'.out HC.out HC'.out (by omega) (by omega)).mono ?_
  rintro e w3 ⟨v, rfl, ho, hb⟩
  have hsj : ∀ p ∈ ps ++ qs, p.1.size ≤ maxLen := fun p hp => (List.mem_append.1 hp).elim (HF.out.1 p) (HF'.out.1 p)
  have hta : Tame (ps ++ qs) := tame_two HR.out HR'.out
  obtain ⟨J, hJ⟩ : ∃ J, ps ++ qs = J := ⟨_, rfl⟩
  rw [hJ] at ho hsj hta hl
  have HJJ : Hid (ps ++ qs = J) := hJ
  clear hJ
  obtain ⟨aj, cj, rfl⟩ := ho.shape
  have HJ : Hid (Fl w3 aj J) := ho.fl hsj
  have HTA : Hid (Tame J) := hta
  clear hsj hta
  have HB3 : Hid (Below w.heap.size w w3) := hb
  clear ho hb
  go_wp2_with fail
  refine (fluidPlain_any aj cj J w3 HJ.out HTA.out).mono ?_
  rintro e w4 ⟨z, rfl, hz, hb⟩
  obtain ⟨az, cz, rfl⟩ := hz.shape
  have HZ : Hid (Own w4 w.heap.size (.slice az (plainL J).length cz) (plainL J)) := own_base hz HB3.out.size
  have HB4 : Hid (Below w.heap.size w w4) := HB3.out.trans (hb.mono HB3.out.size)
  clear hz hb
 ·have HQ : Hid (putD ps qs = ([], 7)) := by unfold putD; rw [HJJ.out, if_neg (by omega), if_pos hl]; rfl
  go_wp2
  go_ret2
  exact ⟨.slice none 0 0, by rw [HQ.out]; rfl, by rw [HQ.out]; exact Own.nil _ _, HB4.out⟩
 ·have HQ : Hid (putD ps qs = (plainL J, 0)) := by unfold putD; rw [HJJ.out, if_neg (by omega), if_neg (by omega)]; rfl
  go_wp2
  go_ret2
  exact ⟨.slice az (plainL J).length cz, by rw [HQ.out]; rfl, by rw [HQ.out]; exact HZ.out, HB4.out⟩
end Go.Proofs.YtfadmpnpgiceeaaGreat.F
