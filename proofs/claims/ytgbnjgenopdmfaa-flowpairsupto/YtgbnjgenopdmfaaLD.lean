/- tip.put walked. -/
import Derived.Test.YtgbnjgenopdmfaaLC
namespace Go.Proofs.Ytgbnjgenopdmfaa
open Go.RowKit

/-- What is held, in block g. -/
def HdG (w : World) (g : Nat) (v : Value) (hs : List (Nat × Int)) : Prop :=
  ∃ ao cap, v = .slice ao hs.length cap ∧ hs.length ≤ cap ∧ cap ≤ maxLen ∧ ((hs = [] ∧ cap = 0) ∨ ∃ off, ao = some ⟨g, off, none⟩ ∧ g < w.heap.size ∧
    (∀ j, j < cap * 3 → (w.cell? ⟨g, off + j, none⟩).isSome = true ∧ w.frozen? ⟨g, off + j, none⟩ = false) ∧ ∀ k (h : k < hs.length) j, j < 3 → w.cell? ⟨g, off + k * 3 + j, none⟩ = (hcl (hs[k]'h))[j]?)
theorem HdG.hd {w : World} {B T g : Nat} {v : Value} {hs : List (Nat × Int)} (h : HdG w g v hs) (hB : B ≤ g) (hT : g ≠ T) : Hd w B T v hs := by
  obtain ⟨ao, cap, e, h1, h2, h3⟩ := h
  refine ⟨ao, cap, e, h1, h2, h3.imp id ?_⟩
  rintro ⟨off, e1, e2, e3⟩
  exact ⟨g, off, e1, hB, hT, e2, e3⟩
theorem HdG.kept {w w1 : World} {g : Nat} {v : Value} {hs : List (Nat × Int)} (h : HdG w g v hs) (hs1 : w.heap.size ≤ w1.heap.size) (hk : w1.heap[g]? = w.heap[g]?) : HdG w1 g v hs := by
  obtain ⟨ao, cap, e, h1, h2, h3⟩ := h
  refine ⟨ao, cap, e, h1, h2, h3.imp id ?_⟩
  rintro ⟨off, e1, e4, e5, e6⟩
  have hc : ∀ o, w1.cell? ⟨g, o, none⟩ = w.cell? ⟨g, o, none⟩ := fun o => World.cell?_of_block (a := ⟨g, o, none⟩) hk
  have hf : ∀ o, w1.frozen? ⟨g, o, none⟩ = w.frozen? ⟨g, o, none⟩ := fun o => World.frozen?_of_block (a := ⟨g, o, none⟩) hk
  exact ⟨off, e1, Nat.lt_of_lt_of_le e4 hs1, fun j hj => by rw [hc, hf]; exact e5 j hj, fun k h j hj => by rw [hc]; exact e6 k h j hj⟩
/-- The first of what is held: its cells. -/
theorem HdG.first {w : World} {g : Nat} {v : Value} {d : Nat} {x : Int} {r : List (Nat × Int)} (h : HdG w g v ((d, x) :: r)) :
    ∃ off cap, v = .slice (some ⟨g, off, none⟩) (r.length + 1) (cap + 1) ∧ r.length ≤ cap ∧ w.cell? ⟨g, off, none⟩ = some (.int .i64 d) ∧ w.cell? ⟨g, off + 1, none⟩ = some (.int .i64 0) ∧ w.cell? ⟨g, off + 2, none⟩ = some (.int .i64 x) ∧ w.frozen? ⟨g, off + 2, none⟩ = false ∧ g < w.heap.size := by
  obtain ⟨ao, cap, e, h1, h2, ⟨h3, _⟩ | ⟨off, e1, e2, e3, e4⟩⟩ := h
  · cases h3
  · subst e1
    have hl : cap = (cap - 1) + 1 := by simp at h1; omega
    refine ⟨off, cap - 1, by rw [e, ← hl]; rfl, by simp at h1; omega, ?_, ?_, ?_, ?_, e2⟩
    · have := e4 0 (by simp) 0 (by decide); simpa using this
    · have := e4 0 (by simp) 1 (by decide); simpa using this
    · have := e4 0 (by simp) 2 (by decide); simpa using this
    · exact (e3 2 (by simp at h1; omega)).2
/-- The first one's volume is another one. -/
theorem HdG.less {w : World} {g : Nat} {off cap : Nat} {d : Nat} {x y : Int} {r : List (Nat × Int)} (h : HdG w g (.slice (some ⟨g, off, none⟩) (r.length + 1) (cap + 1)) ((d, x) :: r)) :
    HdG (w.setCell ⟨g, off + 2, none⟩ (.int .i64 y)) g (.slice (some ⟨g, off, none⟩) (r.length + 1) (cap + 1)) ((d, y) :: r) := by
  obtain ⟨ao, cap2, e, h1, h2, ⟨h3, _⟩ | ⟨off2, e1, e2, e3, e4⟩⟩ := h
  · cases h3
  · injection e with e5 e6 e7
    rw [e1] at e5
    injection e5 with e5
    injection e5 with _ e5
    subst e5 e7
    refine ⟨_, _, rfl, h1, h2, .inr ⟨off, rfl, by simpa [World.setCell] using e2, fun j hj => ?_, fun k hk j hj => ?_⟩⟩
    · rw [World.frozen?_setCell]
      refine ⟨?_, (e3 j hj).2⟩
      by_cases hj2 : j = 2
      · subst hj2
        rw [World.cell?_setCell_same' _ _ _ (e3 2 hj).1]; rfl
      · rw [World.cell?_setCell_other _ _ _ _ (fun e => by injection e with _ e; omega)]
        exact (e3 j hj).1
    · match k, hk with
      | 0, _ =>
        have h0 := e4 0 (by simp) j hj
        match j, hj with
        | 0, _ => rw [World.cell?_setCell_other _ _ _ _ (by simp)]; simpa using h0
        | 1, _ => rw [World.cell?_setCell_other _ _ _ _ (by simp)]; simpa using h0
        | 2, _ => simp only [Nat.zero_mul, Nat.add_zero]; rw [World.cell?_setCell_same' _ _ _ (e3 2 (by simp at h1; omega)).1]; rfl
      | k + 1, hk =>
        rw [World.cell?_setCell_other _ _ _ _ (fun e => by injection e; omega)]
        have := e4 (k + 1) (by simpa using hk) j hj
        simpa using this
/-- Without the first. -/
theorem HdG.tail {w : World} {g off cap : Nat} {d : Nat} {x : Int} {r : List (Nat × Int)} (h : HdG w g (.slice (some ⟨g, off, none⟩) (r.length + 1) (cap + 1)) ((d, x) :: r)) :
    HdG w g (.slice (some ⟨g, if cap = 0 then off else off + 3, none⟩) r.length cap) r := by
  obtain ⟨ao, cap2, e, h1, h2, ⟨h3, _⟩ | ⟨off2, e1, e2, e3, e4⟩⟩ := h
  · cases h3
  · injection e with e5 e6 e7
    rw [e1] at e5
    injection e5 with e5
    injection e5 with _ e5
    subst e5 e7
    refine ⟨_, _, rfl, by simp at h1; omega, Nat.le_trans (Nat.le_succ _) h2, ?_⟩
    by_cases hc : cap = 0
    · left
      subst hc
      exact ⟨List.eq_nil_of_length_eq_zero (by simp only [List.length_cons] at h1; omega), rfl⟩
    · right
      rw [if_neg hc]
      refine ⟨off + 3, rfl, e2, fun j hj => ?_, fun k hk j hj => ?_⟩
      · have := e3 (3 + j) (by omega)
        rwa [← Nat.add_assoc] at this
      · have := e4 (k + 1) (by simpa using hk) j hj
        rw [show off + (k + 1) * 3 + j = off + 3 + k * 3 + j by omega] at this
        simpa using this
theorem ptR_cons (i : Nat) (v : Int) (d : Nat) (x : Int) (r : List (Nat × Int)) : ptR i v ((d, x) :: r) = if 0 < v then (if v < x then ([⟨d, i, v⟩], (d, x - v) :: r) else (⟨d, i, x⟩ :: (ptR i (v - x) r).1, (ptR i (v - x) r).2)) else ([], (d, x) :: r) := by
  conv => lhs; unfold ptR
theorem ptR_zero (i : Nat) {v : Int} (h : ¬ 0 < v) (hs : List (Nat × Int)) : ptR i v hs = ([], hs) := by
  cases hs with
  | nil => rfl
  | cons p r => obtain ⟨d, x⟩ := p; rw [ptR_cons, if_neg h]
theorem Hd.block {w : World} {B T : Nat} {v : Value} {hs : List (Nat × Int)} (h : Hd w B T v hs) (hBT : B ≤ T) : ∃ g, B ≤ g ∧ g ≠ T ∧ HdG w g v hs ∧ (g < w.heap.size ∨ hs = []) := by
  obtain ⟨ao, cap, e, h1, h2, ⟨h3, h4⟩ | ⟨g, off, e1, e2, e3, e4, e5, e6⟩⟩ := h
  · exact ⟨T + 1, by omega, by omega, ⟨ao, cap, e, h1, h2, .inl ⟨h3, h4⟩⟩, .inr h3⟩
  · exact ⟨g, e2, e3, ⟨ao, cap, e, h1, h2, .inr ⟨off, e1, e4, e5, e6⟩⟩, .inl e4⟩
theorem HdG.form {w : World} {g : Nat} {v : Value} {hs : List (Nat × Int)} (h : HdG w g v hs) : ∃ ao cap, v = .slice ao hs.length cap := by
  obtain ⟨ao, cap, e, _⟩ := h
  exact ⟨ao, cap, e⟩
theorem Kpt.bk {M : Nat → Prop} {w w1 : World} (h : Kpt M w w1) {b : Nat} {cs : List Value} (hb : Bk b cs w) (hM : ¬ M b) : Bk b cs w1 := hb.same h.size (h.block b hb.1 hM)
/-- What lies below the call's own slice stays. -/
theorem far_row {α : Type} {c : Enc α} {base : Nat} {wr w5 : World} {o : Obj} {v : Value} {out : List α} (h : OwnR c wr base v out) (hg : (wr.alloc o).grownBy w5 v.ownBlock) : Kpt (fun k => base ≤ k) wr w5 := by
  refine ⟨hg.os, hg.tape, hg.output, Nat.le_trans (by simp) hg.size, fun k hk hm => ?_⟩
  refine (hg.block k (by simp; omega) fun e => ?_).trans (Below.heap_alloc _ _ _ hk)
  have := (World.ownsRow.lt h k e.symm).1
  omega
theorem Kpt.cell {M : Nat → Prop} {w w1 : World} (h : Kpt M w w1) {b o : Nat} {v : Value} (hc : w.cell? ⟨b, o, none⟩ = some v) (hb : b < w.heap.size) (hM : ¬ M b) : w1.cell? ⟨b, o, none⟩ = some v := (World.cell?_of_block (a := ⟨b, o, none⟩) (h.block b hb hM)).trans hc
theorem Kpt.froz {M : Nat → Prop} {w w1 : World} (h : Kpt M w w1) {b o : Nat} (hc : w.frozen? ⟨b, o, none⟩ = false) (hb : b < w.heap.size) (hM : ¬ M b) : w1.frozen? ⟨b, o, none⟩ = false := (World.frozen?_of_block (a := ⟨b, o, none⟩) (h.block b hb hM)).trans hc
theorem w64 {n : Int} (h1 : -9223372036854775808 ≤ n) (h2 : n ≤ 9223372036854775807) : wrap64 n = n := by unfold wrap64; omega
structure PutI (w : World) (B T g i n : Nat) (v : Int) (hs : List (Nat × Int)) (vv : Int) (gv : Value) (wr : World) (out : List Shr) (hs' : List (Nat × Int)) (hv' : Value) : Prop where
  tk : Bk T [.bool true, hv'] wr
  hd : HdG wr g hv' hs'
  lt : g < w.heap.size ∨ hs' = []
  own : OwnR encSh wr w.heap.size gv out
  eq : ptR i v hs = (out ++ (ptR i vv hs').1, (ptR i vv hs').2)
  ok : HOk n hs'
  vle : vv ≤ 1000000000
  few : out.length + hs'.length ≤ hs.length + 1 ∧ (out.length + hs'.length ≤ hs.length ∨ vv ≤ 0)
  kp : Kpt (fun k => k = T ∨ k = g) w wr
set_option maxHeartbeats 3200000 in
set_option maxRecDepth 100000 in
theorem put_any (B T i n : Nat) (v : Int) (hv : Value) (hs : List (Nat × Int)) (w : World) (hT : Bk T [.bool true, hv] w) (hBT : B ≤ T) (hH : Hd w B T hv hs) (hok : HOk n hs) (hv1 : v ≤ 1000000000) (hlen : hs.length ≤ 100000) :
    Calls Try.prog 35 #[ptr T, .int .i64 i, .int .i64 v] w fun e w' => ∃ gv hv', e = .returned gv ∧ OwnR encSh w' w.heap.size gv (ptR i v hs).1 ∧ Bk T [.bool true, hv'] w' ∧ Hd w' B T hv' (ptR i v hs).2 ∧ Kpt (fun k => B ≤ k) w w' := by
  obtain ⟨g, hBg, hgT, hG, hgl⟩ := hH.block hBT
  have hTw := hT.1
  have H0 : Hid (PutI w B T g i n v hs v (.slice none 0 0) w [] hs hv) := ⟨hT, hG, hgl, OwnR.nil _ _ _, rfl, hok, hv1, ⟨by simp, .inl (by simp)⟩, Kpt.refl _ _⟩
  clear hT hH hG hgl hok
  go_enter Try.func35, Try.ntmps35
  go_wp2
  go_loopw [2, 7] (fun a q wr => ∃ vv out hs' hv', a = .int .i64 vv ∧ PutI w B T g i n v hs vv q wr out hs' hv') (fun a _ _ => (intOf a).toNat)
  case atStart => exact ⟨v, [], hs, hv, rfl, H0.out⟩
  case round =>
    obtain ⟨vv, out, hs', hv', rfl, HI⟩ := hrel
    have HP : Hid (PutI w B T g i n v hs vv _ wr out hs' hv') := HI
    have c1 := HI.tk.c 1 rfl
    have f1 := HI.tk.f 1 rfl
    clear HI
    by_cases hp : 0 < vv
    · cases hs' with
      | nil =>
        obtain ⟨ao, cap, rfl⟩ := HP.out.hd.form
        simp only [List.length_nil] at c1
        go_wp2
        go_ret
        have P := HP.out
        have e1 : ptR i vv ([] : List (Nat × Int)) = ([], []) := rfl
        have e2 := P.eq
        rw [e1] at e2
        simp only [List.append_nil] at e2
        refine ⟨_, _, rfl, by rw [e2]; exact P.own, P.tk, by rw [e2]; exact P.hd.hd hBg hgT, P.kp.mono ?_⟩
        rintro k (rfl | rfl)
        · exact hBT
        · exact hBg
      | cons p r =>
        obtain ⟨d, xv⟩ := p
        obtain ⟨off, cap, rfl, hrc, q0, q1, q2, qf, hgs⟩ := HP.out.hd.first
        have hx := HP.out.ok (d, xv) (by simp)
        simp only at hx
        have hgw : g < w.heap.size := HP.out.lt.resolve_right (by simp)
        have hfew := HP.out.few
        simp only [List.length_cons] at hfew
        have hx1 : 1 ≤ xv := hx.2.1
        have hvle : vv ≤ 1000000000 := HP.out.vle
        obtain ⟨ao7, cap7, e7⟩ := HP.out.own.shape
        subst e7
        have HO := (show Hid (OwnR encSh wr w.heap.size (.slice ao7 out.length cap7) out) from HP.out.own)
        have HS := (show Hid (w.heap.size ≤ wr.heap.size) from HP.out.kp.size)
        by_cases hlt : vv < xv
        · have hne0 : (xv - vv == 0) = false := by simp; omega
          have hnT : ¬ w.heap.size ≤ T := by omega
          have hnG : ¬ w.heap.size ≤ g := by omega
          have hTr : T < wr.heap.size := HP.out.tk.1
          go_wp2_with (at_builtin; refine wpList_append_row goodSh Try.underlying74 infoSh rfl (by decide) (by decide) _ rfl (.tmp 31) (.tmp 39) rfl w.heap.size (.slice ao7 out.length cap7) out rfl (HO.out.alloc _) wr.heap.size ⟨d, i, vv⟩ rfl (fun j u hu => three_new wr (.int .i64 d) (.int .i64 i) (.int .i64 vv) _ j u hu) (by omega) (by have := HS.out; simp; omega) ?_; intro v5 w5 o5 g5 l5; have k5 := far_row HO.out g5; have p2 := k5.cell q2 hgs hnG; have pf := k5.froz qf hgs hnG; have p1 := k5.cell c1 hTr hnT; have pf1 := k5.froz f1 hTr hnT; obtain ⟨ao5, n5, cap5, rfl⟩ := o5.form)
          go_roundw
          case rel =>
            have P := HP.out
            have k5' : Kpt (fun k => k = T ∨ k = g) w (w5.setCell ⟨g, off + 2, none⟩ (.int .i64 (xv - vv))) := by
              refine ⟨k5.os.trans P.kp.os, k5.tape.trans P.kp.tape, k5.output.trans P.kp.output, ?_, fun k hk hm => ?_⟩
              · have := Nat.le_trans P.kp.size k5.size; simpa [World.setCell] using this
              · exact (Below.heap_setCell _ _ _ _ (fun e => hm (.inr e))).trans ((k5.block k (Nat.lt_of_lt_of_le hk P.kp.size) (by omega)).trans (P.kp.block k hk hm))
            refine ⟨_, out ++ [⟨d, i, vv⟩], (d, xv - vv) :: r, _, rfl, ⟨(k5.bk P.tk (by omega)).other (Ne.symm hgT) _ _, (P.hd.kept k5.size (k5.block g hgs hnG)).less, .inl hgw, ?_, ?_, ?_, ?_, ?_, k5'⟩⟩
            · exact ownsRow_setCell_below o5 (show g < w.heap.size from hgw) _
            · rw [P.eq, ptR_cons, if_pos hp, if_pos hlt, ptR_zero i (by omega)]
              simp
            · intro z hz
              rcases List.mem_cons.1 hz with rfl | hz
              · exact ⟨hx.1, by show 1 ≤ xv - vv; omega, by show xv - vv ≤ 1000000000; omega⟩
              · exact P.ok z (by simp [hz])
            · omega
            · simp; omega
          case measure => simp [intOf]; omega
        · have hmin : (if xv < vv then xv else vv) = xv := by split <;> omega
          have hnT : ¬ w.heap.size ≤ T := by omega
          have hnG : ¬ w.heap.size ≤ g := by omega
          have hTr : T < wr.heap.size := HP.out.tk.1
          have hw64 : wrap64 (vv - xv) = vv - xv := w64 (by omega) (by omega)
          have T3 : Hid (∀ j u, (encSh.enc (⟨d, i, xv⟩ : Shr))[j]? = some u → (wr.alloc (.cells #[.int .i64 d, .int .i64 i, .int .i64 xv] 54)).cell? ⟨wr.heap.size, j, none⟩ = some u) := fun j u hu => three_new wr _ _ _ _ j u hu
          by_cases hcap : cap = 0
          · subst hcap
            have hr0 : r = [] := List.eq_nil_of_length_eq_zero (by omega)
            subst hr0
            simp only [List.length_nil] at hrc hfew c1 HP
            go_wp2_with (at_builtin; refine wpList_append_row goodSh Try.underlying74 infoSh rfl (by decide) (by decide) _ rfl (.tmp 31) (.tmp 39) rfl w.heap.size (.slice ao7 out.length cap7) out rfl (HO.out.alloc _) wr.heap.size ⟨d, i, xv⟩ rfl T3.out (by omega) (by have := HS.out; simp; omega) ?_; intro v5 w5 o5 g5 l5; have k5 := far_row HO.out g5; have p2 := k5.cell q2 hgs hnG; have pf := k5.froz qf hgs hnG; have p1 := k5.cell c1 hTr hnT; have pf1 := k5.froz f1 hTr hnT; obtain ⟨ao5, n5, cap5, rfl⟩ := o5.form)
            go_roundw
            case rel =>
              have P := HP.out
              have k5' : Kpt (fun k => k = T ∨ k = g) w ((w5.setCell ⟨g, off + 2, none⟩ (.int .i64 0)).setCell ⟨T, 1, none⟩ (.slice (some ⟨g, off, none⟩) 0 0)) := by
                refine ⟨k5.os.trans P.kp.os, k5.tape.trans P.kp.tape, k5.output.trans P.kp.output, ?_, fun k hk hm => ?_⟩
                · have := Nat.le_trans P.kp.size k5.size; simpa [World.setCell] using this
                · exact (Below.heap_setCell _ _ _ _ (fun e => hm (.inl e))).trans ((Below.heap_setCell _ _ _ _ (fun e => hm (.inr e))).trans ((k5.block k (Nat.lt_of_lt_of_le hk P.kp.size) (by omega)).trans (P.kp.block k hk hm)))
              have ht := (HdG.less (r := []) (cap := 0) (y := 0) (P.hd.kept k5.size (k5.block g hgs hnG))).tail
              rw [if_pos rfl] at ht
              refine ⟨vv - xv, out ++ [⟨d, i, xv⟩], [], _, rfl, ⟨((k5.bk P.tk (by omega)).other (Ne.symm hgT) _ _).put 1 _, ht.kept (by simp [World.setCell]) (Below.heap_setCell _ _ _ _ hgT), .inl hgw, ?_, ?_, fun z hz => P.ok z (by simp [hz]), ?_, ?_, k5'⟩⟩
              · exact ownsRow_setCell_below (ownsRow_setCell_below o5 (show g < w.heap.size from hgw) _) (show T < w.heap.size from hTw) _
              · rw [P.eq, ptR_cons, if_pos hp, if_neg (show ¬ vv < xv by omega)]
                simp
              · omega
              · simp; omega
            case measure => simp [intOf]; omega
          · skip
            go_wp2_with (at_builtin; refine wpList_append_row goodSh Try.underlying74 infoSh rfl (by decide) (by decide) _ rfl (.tmp 31) (.tmp 39) rfl w.heap.size (.slice ao7 out.length cap7) out rfl (HO.out.alloc _) wr.heap.size ⟨d, i, xv⟩ rfl T3.out (by omega) (by have := HS.out; simp; omega) ?_; intro v5 w5 o5 g5 l5; have k5 := far_row HO.out g5; have p2 := k5.cell q2 hgs hnG; have pf := k5.froz qf hgs hnG; have p1 := k5.cell c1 hTr hnT; have pf1 := k5.froz f1 hTr hnT; obtain ⟨ao5, n5, cap5, rfl⟩ := o5.form)
            go_roundw
            case rel =>
              have P := HP.out
              have k5' : Kpt (fun k => k = T ∨ k = g) w ((w5.setCell ⟨g, off + 2, none⟩ (.int .i64 0)).setCell ⟨T, 1, none⟩ (.slice (some ⟨g, off + 3, none⟩) r.length cap)) := by
                refine ⟨k5.os.trans P.kp.os, k5.tape.trans P.kp.tape, k5.output.trans P.kp.output, ?_, fun k hk hm => ?_⟩
                · have := Nat.le_trans P.kp.size k5.size; simpa [World.setCell] using this
                · exact (Below.heap_setCell _ _ _ _ (fun e => hm (.inl e))).trans ((Below.heap_setCell _ _ _ _ (fun e => hm (.inr e))).trans ((k5.block k (Nat.lt_of_lt_of_le hk P.kp.size) (by omega)).trans (P.kp.block k hk hm)))
              have ht := ((P.hd.kept k5.size (k5.block g hgs hnG)).less (y := 0)).tail
              rw [if_neg hcap] at ht
              refine ⟨vv - xv, out ++ [⟨d, i, xv⟩], r, _, rfl, ⟨((k5.bk P.tk (by omega)).other (Ne.symm hgT) _ _).put 1 _, ht.kept (by simp [World.setCell]) (Below.heap_setCell _ _ _ _ hgT), .inl hgw, ?_, ?_, fun z hz => P.ok z (by simp [hz]), ?_, ?_, k5'⟩⟩
              · exact ownsRow_setCell_below (ownsRow_setCell_below o5 (show g < w.heap.size from hgw) _) (show T < w.heap.size from hTw) _
              · rw [P.eq, ptR_cons, if_pos hp, if_neg (show ¬ vv < xv by omega)]
                simp
              · omega
              · simp; omega
            case measure => simp [intOf]; omega
    · go_wp2
      go_ret
      have P := HP.out
      have e2 := P.eq
      rw [ptR_zero i (v := vv) (by omega)] at e2
      simp only [List.append_nil] at e2
      refine ⟨_, rfl, (by rw [e2]; exact P.own), _, P.tk, (by rw [e2]; exact P.hd.hd hBg hgT), P.kp.mono ?_⟩
      rintro k (rfl | rfl)
      · exact hBT
      · exact hBg
end Go.Proofs.Ytgbnjgenopdmfaa
