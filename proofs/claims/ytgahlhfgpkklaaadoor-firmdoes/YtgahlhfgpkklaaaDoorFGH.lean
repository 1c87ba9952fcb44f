/- pass, mayBe walked. -/
import Derived.Test.YtgahlhfgpkklaaaDoorFFH
namespace Go.Proofs.YtgahlhfgpkklaaaDoor
open Go.RowKit Go.Maps

theorem Bd.set {B M : Nat} {r : Rg} {f f' : Fm} {w : World} (h : Bd B M r f w) (k : Nat) (v : Value) (e : (bdc r f M).set k v = bdc r f' M) : Bd B M r f' (w.setCell ⟨B, k, none⟩ v) ∧ Kpt (BM B M) w (w.setCell ⟨B, k, none⟩ v) := by
  refine ⟨⟨by rw [← e]; exact h.bk.put k v, h.tm.same (Below.heap_setCell w ⟨B, k, none⟩ v M (Ne.symm h.ne)), h.ne⟩, ⟨rfl, rfl, rfl, by simp [World.setCell], fun j _ hj => Below.heap_setCell w ⟨B, k, none⟩ v j fun e => hj (.inl e)⟩⟩
theorem pt_eql (p q : Pt) (W : World) : (binOp .eql 23 (v3 p) (v3 q)).run Tryd.prog W = .ok (.bool (ptE p q)) W := by
  obtain ⟨a, b, c⟩ := p
  obtain ⟨d, e, f⟩ := q
  go_simp
  by_cases h1 : a = d <;> by_cases h2 : b = e <;> by_cases h3 : c = f <;> simp [ptE, h1, h2, h3]
theorem wp_binop {P : Program} {o : Oper} {a : Act} {w : World} {K : Act → World → Prop} {Q : Exit → Act → World → Prop} {op : BinOp} {t rt : TypeId} {x y : Operand} {v : Value} (ho : o.op = .binOp op t x y rt) (hg : (eqGuard op t x y (a.eval x) (a.eval y)).run P w = .ok () w) (hr : (binOp op t (a.eval x) (a.eval y)).run P w = .ok v w) (hK : K (a.put o.dst v) w) : o.wp P a w K Q := by
  unfold Oper.wp
  simp [execOp, ho, hg, hr, Result.andThen]
  exact hK
set_option maxHeartbeats 6400000 in
set_option maxRecDepth 100000 in
theorem pass_no (a : Nat → Addr) (n B M : Nat) (r : Rg) (f : Fm) (t : Int) (w : World) (h : Bd B M r f w) (hg : Gl a n w) (hk0 : 0 ≤ f.tk) (hk1 : f.tk ≤ 1000000000000000) (ht : 1000000000000000 < f.tk + t) :
    Calls Tryd.prog 55 #[ptr B, .int .i64 t] w fun e w' => e = .returned (.iface 109 (.pointer (some (a 7)))) ∧ w' = w := by
  have q20 := h.bk.c 20 rfl
  have g7 : w.cell? ⟨7, 0, none⟩ = some (.iface 109 (.pointer (some (a 7)))) := hg.cell 7 (by decide)
  have ht2 : 1000000000000000 - f.tk < t := by omega
  clear h hg ht
  go_enter Tryd.func55, Tryd.ntmps55
  go_wp2
  go_ret
  exact ⟨rfl, rfl⟩
set_option maxHeartbeats 6400000 in
set_option maxRecDepth 100000 in
theorem pass_yes (B M : Nat) (r : Rg) (f : Fm) (t : Int) (w : World) (h : Bd B M r f w) (hk0 : 0 ≤ f.tk) (hk1 : f.tk ≤ 1000000000000000) (ht0 : 0 ≤ t) (ht : f.tk + t ≤ 1000000000000000) :
    Calls Tryd.prog 55 #[ptr B, .int .i64 t] w fun e w' => e = .returned .nilIface ∧ Bd B M r { f with tk := f.tk + t } w' ∧ Kpt (BM B M) w w' := by
  have q20 := h.bk.c 20 rfl
  have z20 := h.bk.f 20 rfl
  have HS := h.set 20 (.int .i64 (f.tk + t)) (f' := { f with tk := f.tk + t }) rfl
  have HS' := (show Hid _ from HS)
  have ht2 : ¬ 1000000000000000 - f.tk < t := by omega
  have ht3 : f.tk + t ≤ 9223372036854775807 := by omega
  have ht4 : -9223372036854775808 ≤ f.tk + t := by omega
  clear h HS ht
  go_enter Tryd.func55, Tryd.ntmps55
  go_wp2
  go_ret
  exact ⟨rfl, HS'.out⟩
end Go.Proofs.YtgahlhfgpkklaaaDoor
