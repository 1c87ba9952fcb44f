/- reader.tell, walked. -/
import Derived.Test.YtpfpfnkagmmanaaGreatDoorLxR
import Derived.Deep.RegionLaw
import Derived.Deep.AppendLies
namespace Go.Proofs.YtpfpfnkagmmanaaGreatDoor
open Go.RowKit Go.Shelf

theorem told_facts {w0 w W w2 : World} {l : List UInt8} {n e : Int} {ts : List Tk} {v v' : Value} {p : Tk} (h : Rd w0 w l n ts e) (hv : OwnT w (w0.heap.size + 1) v ts) (hW : Below w.heap.size w W) (hg : W.grownBy w2 v.ownBlock) (h2 : OwnT w2 (w0.heap.size + 1) v' (ts ++ [p])) :
    (∃ g cap', v' = .slice (some ⟨g, 0, none⟩) (ts.length + 1) cap') ∧ (∃ u, w2.cell? ⟨w0.heap.size, 2, none⟩ = some u) ∧ w2.cell? ⟨w0.heap.size, 1, none⟩ = some (.int .i64 n) ∧ w2.frozen? ⟨w0.heap.size, 2, none⟩ = false ∧ Hid (Rd w0 (w2.setCell ⟨w0.heap.size, 2, none⟩ v') l n (ts ++ [p]) e) := by
  have hR := h.later hW
  have hB : Below (w0.heap.size + 1) W w2 := below_owns (Below.refl _ _) (hv.later hW) hg hR.lt
  have lt1 : w0.heap.size < w0.heap.size + 1 := Nat.lt_succ_self _
  obtain ⟨u, c2, _⟩ := hR.c2
  refine ⟨?_, ⟨u, (hB.cell (p := ⟨w0.heap.size, 2, none⟩) lt1).trans c2⟩, (hB.cell (p := ⟨w0.heap.size, 1, none⟩) lt1).trans hR.c1, (hB.frozen (p := ⟨w0.heap.size, 2, none⟩) lt1).trans hR.f2, hR.told (hv.later hW) hg h2⟩
  rcases h2.2 with ⟨_, h⟩ | ⟨g, cap', _, h, _⟩
  · simp at h
  · exact ⟨g, cap', by simpa using h⟩

theorem step_append_tok (w : World) {ops : Array Oper} {o : Oper} {a : Act} {K : Act → World → Prop} {Q : Exit → Act → World → Prop} {E : Prop} (hgd : o.guard = none) (s x : Operand)
    (ho : o.op = .call { callee := .builtin .append, args := #[s, x], argTypes := #[22, 22] }) (base : Nat) (v : Value) (ps : List Tk) (hs : a.eval s = v) (hown : OwnT w base v ps)
    (b : Nat) (p : Tk) (hx : a.eval x = .slice (some ⟨b, 0, none⟩) 1 1) (h0 : w.cell? ⟨b, 0, none⟩ = some (.int .i64 p.k)) (h1 : w.cell? ⟨b, 1, none⟩ = some (.string ⟨p.t.toArray⟩)) (h2 : w.cell? ⟨b, 2, none⟩ = some (.int .i64 p.n))
    (hlen : ps.length ≤ 1000000000000) (hbase : base ≤ w.heap.size)
    (h : ∀ g cap w', OwnT w' base (.slice (some ⟨g, 0, none⟩) (ps.length + 1) cap) (ps ++ [p]) → w.grownBy w' v.ownBlock → K (a.put o.dst (.slice (some ⟨g, 0, none⟩) (ps.length + 1) cap)) w') :
    if Region.wanted o (yielded ops a.tmps) = true then Oper.wp Tryz.prog o a w K Q else E := by
  obtain ⟨i0, hi, hz0, hz1, hz2⟩ := info_parts Tryz.infoT
  refine step_append_lies w hgd s x 22 ho base 36 i0 (.agg #[.int .i64 0, .string ⟨#[]⟩, .int .i64 0]) 3 32 Tryz.underlying22 hi hz0 hz1 hz2 rfl (by decide) v ps.length (cellsT ps) hs hown ⟨b, 0, none⟩ 1 1 [.int .i64 p.k, .string ⟨p.t.toArray⟩, .int .i64 p.n] hx rfl ?_ ?_ (by decide) ?_ ?_ hbase w.heap.size rfl ?_
  · intro j u hj
    match j, hj with
    | 0, hj => simp at hj; subst hj; simpa [Addr.add] using h0
    | 1, hj => simp at hj; subst hj; simpa [Addr.add] using h1
    | 2, hj => simp at hj; subst hj; simpa [Addr.add] using h2
  · intro u hu
    simp at hu
    rcases hu with rfl | rfl | rfl <;> rfl
  · unfold maxLen; omega
  · omega
  · intro g cap w' h1 h2 h3 _
    refine h g cap w' ?_ h2
    unfold OwnT
    rw [cellsT_append, cellsT_one, List.length_append]
    exact h1
theorem new_tok (w : World) (u0 u1 u2 : Value) : ((w.alloc (.cells #[u0, u1, u2] 36)).drew).cell? ⟨w.heap.size, 0, none⟩ = some u0 ∧ ((w.alloc (.cells #[u0, u1, u2] 36)).drew).cell? ⟨w.heap.size, 1, none⟩ = some u1 ∧ ((w.alloc (.cells #[u0, u1, u2] 36)).drew).cell? ⟨w.heap.size, 2, none⟩ = some u2 :=
  ⟨by go_simp, by go_simp, by go_simp⟩
theorem below_new (w : World) (o : Obj) : Below w.heap.size w (w.alloc o).drew := ((Below.refl _ _).alloc (Nat.le_refl _) _).drew

set_option maxHeartbeats 6400000 in
set_option maxRecDepth 100000 in
theorem tell_any (w0 w : World) (l : List UInt8) (n : Int) (ts : List Tk) (e : Int) (k : Int) (x : List UInt8) (hR : Rd w0 w l n ts e) (hl : ts.length ≤ 20000) :
    Calls Tryz.prog 66 #[ptr w0.heap.size, .int .i64 k, .string ⟨x.toArray⟩] w fun e' w' => e' = .returned (fnV 24) ∧ Rd w0 w' l n (ts ++ [⟨k, x, n⟩]) e := by
  have HR := (show Hid _ from hR)
  obtain ⟨v, c2, hv⟩ := hR.c2
  obtain ⟨ao, cap, rfl⟩ := hv.shape
  have HL : Hid (ts.length ≤ 20000) := hl
  have f2 := hR.f2
  have c1 := hR.c1
  have hlt : w0.heap.size < w.heap.size := hR.lt
  obtain ⟨m, hm⟩ : ∃ m, m = ts.length := ⟨_, rfl⟩
  rw [← hm] at c2 hv
  have HV : Hid (OwnT w (w0.heap.size + 1) (.slice ao m cap) ts) := hv
  have HM := (show Hid _ from hm)
  clear hR hv hl hm
  go_enter Tryz.func66, Tryz.ntmps66
  go_wp2_with fail
  go_region_law (refine step_append_tok _ (by rfl) _ _ (by rfl) (w0.heap.size + 1) (.slice ao m cap) ts (by rfl) (HV.out.later (below_new _ _)) w.heap.size ⟨k, x, n⟩ (by rfl) (new_tok _ _ _ _).1 (new_tok _ _ _ _).2.1 (new_tok _ _ _ _).2.2 (by have := HL.out; omega) (by simp; omega) ?_; intro g cap' w2 hown hg; obtain ⟨_, ⟨u2, d2⟩, d1, g2, hfin⟩ := told_facts HR.out HV.out (below_new _ _) hg hown)
  all_goals
    go_wp2
    go_ret
    exact ⟨rfl, hfin.out⟩
end Go.Proofs.YtpfpfnkagmmanaaGreatDoor
