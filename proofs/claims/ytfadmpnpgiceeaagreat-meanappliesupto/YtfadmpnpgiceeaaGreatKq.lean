import Derived.Test.YtfadmpnpgiceeaaGreatKm
import Derived.Test.YtfadmpnpgiceeaaGreatKp

/- workcellref: joinParcels of long lists, WellOf, StateOf walked. -/
namespace Go.Proofs.YtfadmpnpgiceeaaGreat
open Go.RowKit Go.Maps
theorem wpList_append_opt {α : Type} {c : Enc α} (hgc : Good c) {T by' : Nat} {z : Value} (hT : Tryz.prog.underlying T = some (.slice c.E)) (hI : (Tryz.prog.info? c.E).map (fun i => (i.zero, i.size, i.bytes)) = some (some z, c.sz, by')) (hz : z.cells.size = c.sz) (hs0 : 0 < c.sz)
  (w : World) {ops : Array Oper} {rest : List Oper} {o : Oper} {a : Act} {Q : Exit → Act → World → Prop} (hgd : o.guard = none) (s x : Operand)
  (ho : o.op = .call { callee := .builtin .append, args := #[s, x], argTypes := #[T, T] }) (base : Nat) (v : Value) (ps : List α) (hs : a.eval s = v) (hown : OwnR c w base v ps)
  (ao : Option Addr) (cp : Nat) (l : List α) (hx : a.eval x = .slice ao l.length cp) (hq : RdR c w ao l) (hc : ao = none → cp = 0) (h63 : ps.length + l.length ≤ maxLen) (hlen : (ps.length + l.length) * by' ≤ 140737488355328) (hbase : base ≤ w.heap.size)
  (h : ∀ v' w', OwnR c w' base v' (ps ++ l) → w.grownBy w' v.ownBlock → (v'.ownBlock = v.ownBlock ∨ v'.ownBlock = some w.heap.size) → wpList Tryz.prog ops Q rest (a.put o.dst v') w') :
  wpList Tryz.prog ops Q (o :: rest) a w := by
 cases ao with
 | none =>
  obtain rfl := rd_none hq
  obtain rfl := hc rfl
  obtain ⟨i0, hi, hz0, hz1, hz2⟩ := info_parts hI
  exact wpList_append_own_none hgd s x T ho base c.E i0 c.sz hT hi v ps.length (c.cells ps) hs hown hx (h v w (by rw [List.append_nil]; exact hown) ⟨rfl, rfl, rfl, Nat.le_refl _, fun _ _ _ => rfl⟩ (.inl rfl))
 | some ad => exact wpList_append_list hgc hT hI hz hs0 w hgd s x ho base v ps hs hown ad cp l hx hq h63 hlen hbase h
theorem OwnR.nilcap {α : Type} {c : Enc α} {w : World} {base : Nat} {ao : Option Addr} {n cap : Nat} {ps : List α} (h : OwnR c w base (.slice ao n cap) ps) : ao = none → cap = 0 := by
 intro e
 subst e
 rcases h.2 with ⟨h1, _⟩ | ⟨g, cap', cur, h1, _⟩
 ·injection h1
 ·cases h1
theorem own_rd {α : Type} {c : Enc α} (hg : Good c) {w : World} {base : Nat} {ao : Option Addr} {n cap : Nat} {ps : List α} (h : OwnR c w base (.slice ao n cap) ps) : RdR c w ao ps := by
 rcases h.read hg with ⟨h1, _⟩ | ⟨g, cap', e, _, _, hlt, hc⟩
 ·exact .inl h1
 ·injection e with e1 e2 e3
  subst e1
  exact .inr ⟨g, 0, rfl, hlt, fun k hk j hj => by have := hc k hk j hj; rw [Nat.zero_add]; exact this⟩
theorem OwnR.hi {α : Type} {c : Enc α} {w : World} {base : Nat} {ao : Option Addr} {n cap : Nat} {ps : List α} (h : OwnR c w base (.slice ao n cap) ps) : ∀ a, ao = some a → base ≤ a.block ∧ a.block < w.heap.size := fun a ha => World.ownsRow.lt h a.block (by rw [ha]; rfl)
set_option maxHeartbeats 800000 in
theorem joinB_any (ao : Option Addr) (cap : Nat) (ps : List F.Pc) (w : World) (h : F.Fl w ao ps) (hc : ao = none → cap = 0) (hl : ps.length ≤ 1000000000) :
  Calls Tryz.prog 26 #[.slice ao ps.length cap, .slice none 0 0] w fun e w' => ∃ v, e = .returned v ∧ OwnR encC w' w.heap.size v ps ∧ Below w.heap.size w w' := by
 have HF : Hid (RdR encC w ao ps) := rd_fl h
 have HC : Hid (ao = none → cap = 0) := hc
 clear h hc
 go_enter Tryz.func26, Tryz.ntmps26
 go_wp2_with (first | (at_builtin; refine wpList_append_opt goodC Tryz.underlying24 infoC rfl (by decide) _ rfl (.tmp 6) (.tmp 7) rfl w.heap.size (.slice none 0 0) [] rfl (OwnR.nil _ _ _) ao cap ps rfl HF.out HC.out (by simp [maxLen]; omega) (by simp; omega) (Nat.le_refl _) ?_; intro v' w1 ho hg hloc; have hb : Below w.heap.size w w1 := (brf).grown hg (Nat.le_refl _) (fun k hk => by cases hk)) | (at_builtin; refine wpList_append_opt goodC Tryz.underlying24 infoC rfl (by decide) _ rfl (.tmp 9) (.tmp 10) rfl w.heap.size v' ([] ++ ps) rfl ho none 0 [] rfl (.inl rfl) (fun _ => rfl) (by simp [maxLen]; omega) (by simp; omega) hb.size ?_; intro v2 w2 ho2 hg2 hloc2))
 go_ret
 rw [List.append_nil] at ho2
 exact ⟨v2, rfl, ho2, below_row hb ho hg2 hb.size⟩
theorem pl_same' (p q : Plc) (W : World) : (binOp .eql 31 (.agg #[.int .i64 p.1, .int .i64 p.2.1, .int .i64 p.2.2]) (.agg #[.int .i64 q.1, .int .i64 q.2.1, .int .i64 q.2.2])).run Tryz.prog W = .ok (.bool (p == q)) W := by
 obtain ⟨a, b, c⟩ := p
 obtain ⟨d, e, f⟩ := q
 go_simp
 by_cases h1 : a = d <;> by_cases h2 : b = e <;> by_cases h3 : c = f <;> simp [h1, h2, h3]
theorem wellF_hit {wl : List Wh} {p : Plc} {k : Nat} (hk : k < wl.length) (h : ∀ x ∈ wl.take k, (x.1 == p) = false) (hs : ((wl[k]'hk).1 == p) = true) : wellF (whp wl) p = (wl[k]'hk).2.2.2 := by
 have e : wl = wl.take k ++ wl[k]'hk :: wl.drop (k + 1) := by rw [← List.drop_eq_getElem_cons hk, List.take_append_drop]
 unfold wellF whp
 have : (wl.map fun x => (x.1, x.2.2.2)).find? (fun x => x.1 == p) = some ((wl[k]'hk).1, (wl[k]'hk).2.2.2) := by
  conv => lhs; rw [e]
  rw [List.map_append, List.find?_append, List.map_cons, List.find?_cons]
  have : (List.map (fun x : Wh => (x.1, x.2.2.2)) (wl.take k)).find? (fun x => x.1 == p) = none := by
   rw [List.find?_eq_none]
   intro x hx
   obtain ⟨y, hy, rfl⟩ := List.mem_map.1 hx
   simp only [h y hy]
   decide
  rw [this]
  simp [hs]
 rw [this]
 rfl
theorem wellF_miss {wl : List Wh} {p : Plc} (h : ∀ x ∈ wl, (x.1 == p) = false) : wellF (whp wl) p = [] := wellF_none fun x hx => by
 obtain ⟨y, hy, rfl⟩ := List.mem_map.1 hx
 simpa using h y hy
structure SmN (t : Sm) : Prop where
 fl : ∀ x ∈ t.wl, x.2.1 = none → x.2.2.1 = 0
 held : t.aoH = none → t.capH = 0
 touched : t.aoT = none → t.capT = 0
set_option maxHeartbeats 3200000 in
theorem wellOf_any (s : Sm) (p : Plc) (w : World) (hS : SmIn w s) (hn : SmN s) (hw : s.wl.length ≤ 1000000000) (hf : ∀ x ∈ s.wl, x.2.2.2.length ≤ 1000000000) :
  Calls Tryz.prog 14 #[smv s, plv p] w fun e w' => ∃ v, e = .returned v ∧ OwnR encC w' w.heap.size v (wellF s.st.wells p) ∧ Below w.heap.size w w' := by
 have HS : Hid (SmIn w s) := hS
 have HN : Hid (SmN s) := hn
 have HF : Hid (∀ x ∈ s.wl, x.2.2.2.length ≤ 1000000000) := hf
 obtain ⟨w0, hw0⟩ : ∃ w0, w0 = (w.alloc (smo s)).alloc (pobj p) := ⟨_, rfl⟩
 have HB0 : Hid (Below w.heap.size w w0) := by show Below _ _ _; rw [hw0]; exact ((brf).alloc (Nat.le_refl _) _).alloc (by simp) _
 have KS : Hid (Bk w.heap.size (sml s) w0) := by show Bk _ _ _; rw [hw0]; exact (Bk.new w (sml s) 27 w.heap.size rfl).later ((brf).alloc (Nat.le_refl _) _)
 have KP : Hid (Bk (w.heap.size + 1) (pcl p) w0) := by show Bk _ _ _; rw [hw0]; exact Bk.new _ (pcl p) 31 (w.heap.size + 1) (by simp)
 have HW0 : Hid (w0 = _) := hw0
 clear hS hn hf hw0
 go_enter Tryz.func14, Tryz.ntmps14
 go_wp2_with fail
 rw [← HW0.out]
 go_loopw [5] (fun i wr => ∃ k : Nat, k ≤ s.wl.length ∧ i = .int .i64 k ∧ (∀ x ∈ s.wl.take k, (x.1 == p) = false) ∧ ∃ n, wr = w0.drewN n) (fun i _ => s.wl.length - (intOf i).toNat)
 case atStart => exact ⟨0, Nat.zero_le _, rfl, (fun s hs => by simp at hs), 0, rfl⟩
 case round =>
  obtain ⟨k, hk, rfl, ha, n, rfl⟩ := hrel
  have HA : Hid (∀ x ∈ s.wl.take k, (x.1 == p) = false) := ha
  clear ha
  obtain ⟨s0, s1, s2, s3, s4, s5, s6⟩ := (KS.out).c7
  obtain ⟨p0, p1, p2⟩ := (KP.out).c3
  by_cases hlt : k < s.wl.length
  ·obtain ⟨b, off, hao, hx⟩ := (HS.out.next HB0.out).wells.at hlt
   have HM : Hid (((s.wl[k]'hlt).1 == p) = false → ∀ x ∈ s.wl.take (k + 1), (x.1 == p) = false) := fun h x hx => by
    rw [List.take_succ_eq_append_getElem hlt] at hx
    rcases List.mem_append.1 hx with hx | hx
    ·exact HA.out x hx
    ·rw [List.mem_singleton] at hx; rw [hx]; exact h
   have HH : Hid (((s.wl[k]'hlt).1 == p) = true → wellF s.st.wells p = (s.wl[k]'hlt).2.2.2) := fun h => wellF_hit hlt HA.out h
   have hfy := HF.out _ (List.getElem_mem hlt)
   have hny := HN.out.fl _ (List.getElem_mem hlt)
   have HNY : Hid (_) := hny
   generalize s.wl[k]'hlt = y at *
   have HX : Hid (WhAt w0 b (off + k * 4) y) := hx
   obtain ⟨_, c0, c1, c2, c3, _⟩ := hx
   rw [hao] at s0
   have hki : (k : Int) < (s.wl.length : Int) := by omega
   have hpl := fun W => pl_same' y.1 p W
   clear hao hny HA
   cases hz : (y.1 == p) with
   | true =>
    have HQ : Hid (wellF s.st.wells p = y.2.2.2) := HH.out hz
    simp only [hz] at hpl
    clear HM HH hz
    go_wp2
    go_big_quiet (fail)
    go_wp2_with fail
    refine (joinB_any y.2.1 y.2.2.1 y.2.2.2 _ (HX.out.fl.next (blw_drewN (brf) _)) HNY.out hfy).mono ?_
    rintro e w1 ⟨v, rfl, ho, hb1⟩
    obtain ⟨aoV, capV, rfl⟩ := ho.shape
    have HO : Hid (OwnR encC w1 _ (.slice aoV y.2.2.2.length capV) y.2.2.2) := ho
    have HB1 : Hid (Below w0.heap.size w0 w1) := ⟨hb1.os, hb1.tape, hb1.output, hb1.size, hb1.block⟩
    clear ho hb1 s0 s1 s2 s3 s4 s5 s6 p0 p1 p2 c0 c1 c2 c3 hpl
    go_wp2
    go_ret
    exact ⟨_, rfl, by rw [HQ.out]; exact HO.out.base HB0.out.size, HB0.out.trans (HB1.out.mono HB0.out.size)⟩
   | false =>
    have HM2 : Hid (_) := HM.out hz
    simp only [hz] at hpl
    clear HM HH hz
    go_wp2
    go_big_quiet (fail)
    go_wp2
    go_roundw
    case rel => exact ⟨k + 1, by omega, by go_num, HM2.out, n + nq, by simp⟩
    case measure => simp [intOf]; omega
  ·have HQ : Hid (wellF s.st.wells p = []) := wellF_miss fun x hx => HA.out x (by rw [List.take_of_length_le (by omega)]; exact hx)
   go_wp2
   go_ret
   exact ⟨_, rfl, by rw [HQ.out]; exact OwnR.nil _ _ _, blw_drewN HB0.out _⟩
abbrev avs2 (n : Nat) (v : Value) : List Nat := [n, n + 1, v.ownBlock.getD n]
structure So (w wr : World) (s : Sm) (k : Nat) (acc : List Wh) (v : Value) : Prop where
 tk : whp acc = whp (s.wl.take k)
 own : OwnR encW wr (w.heap.size + 2) v acc
 k0 : Bk w.heap.size (sml s) wr
 k1 : Bk (w.heap.size + 1) z7 wr
 fl : ∀ x ∈ acc, Fla (avs2 w.heap.size v) wr x.2.1 x.2.2.2 ∧ (x.2.1 = none → x.2.2.1 = 0)
 below : Below w.heap.size w wr
def GC (bs : List Nat) (ps : List F.Pc) (v : Value) (w : World) : Prop := ∃ ao cap, v = .slice ao ps.length cap ∧ Fla bs w ao ps ∧ (ao = none → cap = 0)
theorem GC.later {bs : List Nat} {ps : List F.Pc} {v : Value} {w w1 : World} (h : GC bs ps v w) (hb : Below w.heap.size w w1) : GC bs ps v w1 := by
 obtain ⟨ao, cap, e, hf, hn⟩ := h
 exact ⟨ao, cap, e, hf.but (butL_below hb), hn⟩
def GD (bs : List Nat) (p : Plc) (ps : List F.Pc) (v : Value) (w : World) : Prop := ∃ ao cap, v = .agg #[.int .i64 p.1, .int .i64 p.2.1, .int .i64 p.2.2, .slice ao ps.length cap] ∧ Fla bs w ao ps ∧ (ao = none → cap = 0)
theorem GD.later {bs : List Nat} {p : Plc} {ps : List F.Pc} {v : Value} {w w1 : World} (h : GD bs p ps v w) (hb : Below w.heap.size w w1) : GD bs p ps v w1 := by
 obtain ⟨ao, cap, e, hf, hn⟩ := h
 exact ⟨ao, cap, e, hf.but (butL_below hb), hn⟩
def GE (bs : List Nat) (p : Plc) (ps : List F.Pc) (v : Value) (w : World) : Prop := ∃ g ao cap, v = .slice (some ⟨g, 0, none⟩) 1 1 ∧ Bk g [.int .i64 p.1, .int .i64 p.2.1, .int .i64 p.2.2, .slice ao ps.length cap] w ∧ Fla bs w ao ps ∧ (ao = none → cap = 0)
theorem GE.later {bs : List Nat} {p : Plc} {ps : List F.Pc} {v : Value} {w w1 : World} (h : GE bs p ps v w) (hb : Below w.heap.size w w1) : GE bs p ps v w1 := by
 obtain ⟨g, ao, cap, e, hk, hf, hn⟩ := h
 exact ⟨g, ao, cap, e, hk.later hb, hf.but (butL_below hb), hn⟩
def soV (S : Nat) (aoV : Option Addr) (nV capV : Nat) (b off n cW k : Nat) (y : Wh) (bs : List Nat) (d : Nat) (v : Value) (w : World) : Prop :=
 match d with
 | 12 => v = .slice aoV nV capV
 | 13 => v = .pointer (some ⟨S, 0, none⟩)
 | 14 => v = .slice (some ⟨b, off, none⟩) n cW
 | 15 => v = .int .i64 (k : Int)
 | 16 => v = .pointer (some ⟨b, off + k * 4, none⟩)
 | 17 => v = .pointer (some ⟨b, off + k * 4, none⟩)
 | 18 => v = .agg #[.int .i64 y.1.1, .int .i64 y.1.2.1, .int .i64 y.1.2.2]
 | 19 => v = .pointer (some ⟨S, 0, none⟩)
 | 20 => v = .slice (some ⟨b, off, none⟩) n cW
 | 21 => v = .int .i64 (k : Int)
 | 22 => v = .pointer (some ⟨b, off + k * 4, none⟩)
 | 23 => v = .pointer (some ⟨b, off + k * 4 + 3, none⟩)
 | 24 => v = .slice y.2.1 y.2.2.2.length y.2.2.1
 | 25 => GC bs y.2.2.2 v w
 | 26 => GD bs y.1 y.2.2.2 v w
 | 27 => GE bs y.1 y.2.2.2 v w
 | _ => True
theorem soV_mono (S : Nat) (aoV : Option Addr) (nV capV : Nat) (b off n cW k : Nat) (y : Wh) (bs : List Nat) (d : Nat) (v : Value) (w w' : World) (h : soV S aoV nV capV b off n cW k y bs d v w) (hb : Below w.heap.size w w') : soV S aoV nV capV b off n cW k y bs d v w' := by
 unfold soV at h ⊢
 split <;> simp only [] at h <;> first | exact h | exact h.later hb
set_option maxHeartbeats 6400000 in
set_option maxRecDepth 100000 in
theorem stateOf_any (s : Sm) (w : World) (hS : SmIn w s) (hn : SmN s) (hwl : s.wl.length ≤ 1000000000) (hf : ∀ x ∈ s.wl, x.2.2.2.length ≤ 1000000000) (hh : s.held.length ≤ 1000000000) (ht : s.touched.length ≤ 1000000000) :
  Calls Tryz.prog 9 #[smv s] w fun e w' => ∃ t : Sm, e = .returned (smv t) ∧ t.st = s.st ∧ SmIn w' t ∧ SmHi w.heap.size t ∧ SmN t ∧ Below w.heap.size w w' := by
 have HS : Hid (SmIn w s) := hS
 have HN : Hid (SmN s) := hn
 have HF : Hid (∀ x ∈ s.wl, x.2.2.2.length ≤ 1000000000) := hf
 have HH : Hid (s.held.length ≤ 1000000000) := hh
 have HTL : Hid (s.touched.length ≤ 1000000000) := ht
 obtain ⟨wI, hwI⟩ : ∃ wI, wI = (w.alloc (smo s)).alloc (.cells z7.toArray 27) := ⟨_, rfl⟩
 have HI : Hid (So w wI s 0 [] (.slice none 0 0)) := by
  have hb : Below w.heap.size w wI := by rw [hwI]; exact ((brf).alloc (Nat.le_refl _) _).alloc (by simp) _
  refine ⟨rfl, OwnR.nil _ _ _, ?_, ?_, (fun x hx => by cases hx), hb⟩
  ·rw [hwI]; exact (Bk.new w (sml s) 27 w.heap.size rfl).later ((brf).alloc (Nat.le_refl _) _)
  ·rw [hwI]; exact Bk.new _ z7 27 (w.heap.size + 1) (by simp)
 have HWI : Hid (wI = _) := hwI
 clear hS hn hf hh ht hwI
 go_enter Tryz.func9, Tryz.ntmps9
 go_wp2_with fail
 rw [← HWI.out]
 go_loopw [3, 4] (fun v i wr => ∃ (k : Nat) (acc : List Wh), k ≤ s.wl.length ∧ i = .int .i64 k ∧ So w wr s k acc v) (fun _ i _ => s.wl.length - (intOf i).toNat)
 case atStart => exact ⟨0, [], Nat.zero_le _, rfl, HI.out⟩
 case round =>
  obtain ⟨k, acc, hk, rfl, hso⟩ := hrel
  have HSo : Hid (So w wr s k acc _) := hso
  obtain ⟨aoV, capV, rfl⟩ := hso.own.shape
  have K0 : Hid (Bk w.heap.size (sml s) wr) := hso.k0
  have hrow : ∀ k, (Value.slice aoV acc.length capV).ownBlock = some k → w.heap.size + 2 ≤ k ∧ k < wr.heap.size := fun k hk => World.ownsRow.lt hso.own k hk
  have HROW : Hid (∀ k, (Value.slice aoV acc.length capV).ownBlock = some k → w.heap.size + 2 ≤ k ∧ k < wr.heap.size) := hrow
  have hla : acc.length = k := by
   have := congrArg List.length hso.tk
   rw [whp_length, whp_length, List.length_take] at this
   omega
  have HLA : Hid (acc.length = k) := hla
  clear hso hrow hla
  obtain ⟨s0, s1, s2, s3, s4, s5, s6⟩ := (K0.out).c7
  by_cases hlt : k < s.wl.length
  ·obtain ⟨b, off, hao, hx⟩ := (HS.out.next HSo.out.below).wells.at hlt
   have HTK : Hid (whp (s.wl.take (k + 1)) = whp (s.wl.take k) ++ [((s.wl[k]'hlt).1, (s.wl[k]'hlt).2.2.2)]) := by
    show _ = _
    rw [List.take_succ_eq_append_getElem hlt]
    unfold whp
    rw [List.map_append]
    rfl
   have hfy := HF.out _ (List.getElem_mem hlt)
   have HNY : Hid (_) := HN.out.fl _ (List.getElem_mem hlt)
   generalize s.wl[k]'hlt = y at *
   have HX : Hid (WhAt wr b (off + k * 4) y) := hx
   have KS : Hid (Bk w.heap.size [.slice (some ⟨b, off, none⟩) s.wl.length s.capW, .bool s.tip, .slice s.aoH s.held.length s.capH, .slice s.aoT s.touched.length s.capT, .int .i64 s.used, .int .i64 s.heat, .int .i64 s.clock] wr) := by show Bk _ _ _; rw [← hao]; exact K0.out
   rw [hao] at s0
   have hki : (k : Int) < (s.wl.length : Int) := by omega
   have HCL : Hid (∀ W, Below wr.heap.size wr W → Calls Tryz.prog 26 #[.slice y.2.1 y.2.2.2.length y.2.2.1, .slice none 0 0] W fun e w' => ∃ v, e = .returned v ∧ GC (avs2 w.heap.size (.slice aoV acc.length capV)) y.2.2.2 v w' ∧ Below W.heap.size W w') := fun W hW => by
    refine (joinB_any y.2.1 y.2.2.1 y.2.2.2 W (HX.out.fl.next hW) HNY.out hfy).mono ?_
    rintro e w' ⟨v, rfl, ho, hb⟩
    obtain ⟨ao1, cap1, e1, hfl⟩ := fla_own (bs := avs2 w.heap.size (.slice aoV acc.length capV)) ho HX.out.fl.1 (by
     intro k hk
     have h3 := hW.size
     have h4 := HSo.out.k1.1
     simp only [avs2, List.mem_cons, List.not_mem_nil, or_false] at hk
     rcases hk with rfl | rfl | rfl
     ·omega
     ·omega
     ·cases e : (Value.slice aoV acc.length capV).ownBlock with
      | none => simp only [Option.getD_none]; omega
      | some g => simp only [Option.getD_some]; have := HROW.out g e; omega)
    subst e1
    exact ⟨_, rfl, ⟨ao1, cap1, rfl, hfl, ho.nilcap⟩, hb⟩
   clear hx hao hfy
   generalize hn : acc.length = nV at *
   have HN2 : Hid (acc.length = nV) := hn
   clear hn
   go_wp2_with fail
   refine region_seq 16 [zf,zf,zf,zf,zf,zf,zf,zf,zf,zf,zf,zf,zt,zt,zt,zt,zt,zt,zt,zt,zt,zt,zt,zt,zt,zt,zt,zt,zf,zf,zf,zf,zf,zf,zf,zf,zf,zf,zf,zf]
    [(12, [], none), (13, [], none), (14, [13], none), (15, [], none), (16, [14, 15], none), (17, [16], none), (18, [17], none), (19, [], none), (20, [19], none), (21, [], none), (22, [20, 21], none), (23, [22], none), (24, [23], none), (25, [24], none), (26, [18, 25], none), (27, [26], none)]
    (soV w.heap.size aoV nV capV b off s.wl.length s.capW k y (avs2 w.heap.size (.slice aoV nV capV))) (by kernel_rfl) (by kernel_rfl) (by kernel_rfl) (by kernel_rfl) (by kernel_rfl) (by decide) (soV_mono w.heap.size aoV nV capV b off s.wl.length s.capW k y (avs2 w.heap.size (.slice aoV nV capV))) ?_ ?_
   ·refine ⟨?_, ?_, ?_, ?_, ?_, ?_, ?_, ?_, ?_, ?_, ?_, ?_, ?_, ?_, ?_, ?_, trivial⟩
    ·intro f wA hb _ K hK
     simp only [over, overL, Nat.reduceAdd]
     go_simp
     exact hK _ _ ⟨_, rfl, by simp only [over, overL, Nat.reduceAdd]; rfl, brf⟩
    ·intro f wA hb _ K hK
     simp only [over, overL, Nat.reduceAdd]
     go_simp
     exact hK _ _ ⟨_, rfl, by simp only [over, overL, Nat.reduceAdd]; rfl, brf⟩
    ·rintro f wA hb ⟨(h13 : f 13 = _), _⟩ K hK
     have q0 := (KS.out.later hb).c 0 rfl
     simp only [over, overL, Nat.reduceAdd, h13]
     go_simp
     exact hK _ _ ⟨_, rfl, by simp only [over, overL, Nat.reduceAdd, h13]; rfl, brf⟩
    ·intro f wA hb _ K hK
     simp only [over, overL, Nat.reduceAdd]
     go_simp
     exact hK _ _ ⟨_, rfl, by simp only [over, overL, Nat.reduceAdd]; rfl, brf⟩
    ·rintro f wA hb ⟨(h14 : f 14 = _), (h15 : f 15 = _), _⟩ K hK
     simp only [over, overL, Nat.reduceAdd, h14, h15]
     go_simp
     exact hK _ _ ⟨_, rfl, by simp only [over, overL, Nat.reduceAdd, h14, h15]; rfl, brf⟩
    ·rintro f wA hb ⟨(h16 : f 16 = _), _⟩ K hK
     simp only [over, overL, Nat.reduceAdd, h16]
     go_simp
     exact hK _ _ ⟨_, rfl, by simp only [over, overL, Nat.reduceAdd, h16]; rfl, brf⟩
    ·rintro f wA hb ⟨(h17 : f 17 = _), _⟩ K hK
     obtain ⟨_, q0, q1, q2, q3, _⟩ := HX.out.next hb
     simp only [over, overL, Nat.reduceAdd, h17]
     go_simp
     exact hK _ _ ⟨_, rfl, by simp only [over, overL, Nat.reduceAdd, h17]; rfl, brf⟩
    ·intro f wA hb _ K hK
     simp only [over, overL, Nat.reduceAdd]
     go_simp
     exact hK _ _ ⟨_, rfl, by simp only [over, overL, Nat.reduceAdd]; rfl, brf⟩
    ·rintro f wA hb ⟨(h19 : f 19 = _), _⟩ K hK
     have q0 := (KS.out.later hb).c 0 rfl
     simp only [over, overL, Nat.reduceAdd, h19]
     go_simp
     exact hK _ _ ⟨_, rfl, by simp only [over, overL, Nat.reduceAdd, h19]; rfl, brf⟩
    ·intro f wA hb _ K hK
     simp only [over, overL, Nat.reduceAdd]
     go_simp
     exact hK _ _ ⟨_, rfl, by simp only [over, overL, Nat.reduceAdd]; rfl, brf⟩
    ·rintro f wA hb ⟨(h20 : f 20 = _), (h21 : f 21 = _), _⟩ K hK
     simp only [over, overL, Nat.reduceAdd, h20, h21]
     go_simp
     exact hK _ _ ⟨_, rfl, by simp only [over, overL, Nat.reduceAdd, h20, h21]; rfl, brf⟩
    ·rintro f wA hb ⟨(h22 : f 22 = _), _⟩ K hK
     simp only [over, overL, Nat.reduceAdd, h22]
     go_simp
     exact hK _ _ ⟨_, rfl, by simp only [over, overL, Nat.reduceAdd, h22]; rfl, brf⟩
    ·rintro f wA hb ⟨(h23 : f 23 = _), _⟩ K hK
     obtain ⟨_, q0, q1, q2, q3, _⟩ := HX.out.next hb
     simp only [over, overL, Nat.reduceAdd, h23]
     go_simp
     exact hK _ _ ⟨_, rfl, by simp only [over, overL, Nat.reduceAdd, h23]; rfl, brf⟩
    ·rintro f wA hb ⟨(h24 : f 24 = _), _⟩ K hK
     simp only [over, overL, Nat.reduceAdd, h24]
     go_simp
     refine ((HCL.out wA hb).mono) ?_
     rintro e w2 ⟨x, rfl, ht, hb2⟩
     exact hK _ _ ⟨_, ht, by simp only [over, overL, Nat.reduceAdd, h24]; rfl, hb2⟩
    ·rintro f wA hb ⟨(h18 : f 18 = _), h25, _⟩ K hK
     obtain ⟨aoN, capN, h25, hx⟩ := h25
     simp only [over, overL, Nat.reduceAdd, h18, h25]
     go_simp
     exact hK _ _ ⟨_, ⟨aoN, capN, rfl, hx⟩, by simp only [over, overL, Nat.reduceAdd, h18, h25]; rfl, brf⟩
    ·intro f wA hb ⟨h26, _⟩ K hK
     obtain ⟨aoN, capN, h26, hx⟩ := h26
     have al : Below wA.heap.size wA (wA.alloc (.cells #[.int .i64 y.1.1, .int .i64 y.1.2.1, .int .i64 y.1.2.2, .slice aoN y.2.2.2.length capN] 58)) := (brf).alloc (Nat.le_refl _) _
     simp only [over, overL, Nat.reduceAdd, h26]
     go_simp
     exact hK _ _ ⟨_, ⟨wA.heap.size, aoN, capN, rfl, Bk.new wA [.int .i64 y.1.1, .int .i64 y.1.2.1, .int .i64 y.1.2.2, .slice aoN y.2.2.2.length capN] 58 wA.heap.size rfl, hx.1.but (butL_below al), hx.2⟩, by simp only [over, overL, Nat.reduceAdd, h26]; rfl, (brf).alloc (Nat.le_refl _) _⟩
   intro f w3 hb hv
   have h12 : f 12 = _ := hv.1
   have h27 : GE (avs2 w.heap.size (.slice aoV nV capV)) y.1 y.2.2.2 (f 27) w3 := hv.2.2.2.2.2.2.2.2.2.2.2.2.2.2.2.1
   obtain ⟨g, aoN, capN, h27, hkg, hx, hnn⟩ := h27
   have KG : Hid (Bk g [.int .i64 y.1.1, .int .i64 y.1.2.1, .int .i64 y.1.2.2, .slice aoN y.2.2.2.length capN] w3) := hkg
   have HX3 : Hid (Fla (avs2 w.heap.size (.slice aoV nV capV)) w3 aoN y.2.2.2 ∧ (aoN = none → capN = 0)) := ⟨hx, hnn⟩
   have HB3 : Hid (Below wr.heap.size wr w3) := hb
   have HO3 : Hid (OwnR encW w3 (w.heap.size + 2) (.slice aoV nV capV) acc) := HSo.out.own.later hb
   have hl3 : w.heap.size + 2 ≤ w3.heap.size := by have := HSo.out.k1.1; have := hb.size; omega
   have hle : acc.length ≤ 1000000000 := by rw [HN2.out, HLA.out]; omega
   clear hv hb hkg hx hnn
   simp only [List.drop, over, overL, Nat.reduceAdd, h12, h27]
   clear h12 h27
   go_wp2_with (first
    | (at_builtin; refine wpList_append_row goodW Tryz.underlying23 infoW rfl (by decide) (by decide) _ rfl (.tmp 12) (.tmp 27) rfl (w.heap.size + 2) (.slice aoV nV capV) acc rfl HO3.out g (y.1, (aoN, capN, y.2.2.2)) rfl (fun j u hu => KG.out.c j hu) hle hl3 ?_; intro v' w4 ho hg hloc; obtain ⟨aoW, capW, rfl⟩ := ho.shape)
    | go_in)
   have HSo4 : Hid (So w w4 s (k + 1) (acc ++ [(y.1, (aoN, capN, y.2.2.2))]) (.slice aoW (acc ++ [(y.1, (aoN, capN, y.2.2.2))]).length capW)) := by
    have hbu : ButL (avs2 w.heap.size (.slice aoV nV capV)) w3 w4 := butL_grown hg (fun k hk => by show k ∈ [_, _, Option.getD _ _]; rw [hk]; simp)
    have hmem : ∀ k, k < w3.heap.size → k ∈ avs2 w.heap.size (.slice aoW (acc ++ [(y.1, (aoN, capN, y.2.2.2))]).length capW) → k ∈ (avs2 w.heap.size (.slice aoV nV capV)) := by
     intro k hk hm
     simp only [avs2, List.mem_cons, List.not_mem_nil, or_false] at hm ⊢
     rcases hm with h | h | h
     ·exact .inl h
     ·exact .inr (.inl h)
     ·rcases hloc with e | e
      ·rw [e] at h
       exact .inr (.inr h)
      ·rw [e, Option.getD_some] at h
       omega
    have hrw := fun k hk => (HROW.out k hk).1
    have hb3 := HB3.out
    refine ⟨?_, ho, (HSo.out.k0.later hb3).same hg.size (hg.block _ (HSo.out.k0.later hb3).1 (fun e => by have := hrw _ e.symm; omega)), (HSo.out.k1.later hb3).same hg.size (hg.block _ (HSo.out.k1.later hb3).1 (fun e => by have := hrw _ e.symm; omega)), ?_, ?_⟩
    ·rw [HTK.out, ← HSo.out.tk]
     unfold whp
     rw [List.map_append]
     rfl
    ·intro x hx
     rcases List.mem_append.1 hx with hx | hx
     ·exact ⟨((HSo.out.fl x hx).1.but (butL_below hb3)).row hbu hmem (Nat.le_refl _), (HSo.out.fl x hx).2⟩
     ·rw [List.mem_singleton] at hx
      subst hx
      exact ⟨HX3.out.1.row hbu hmem (Nat.le_refl _), HX3.out.2⟩
    ·exact (HSo.out.below.trans (hb3.mono HSo.out.below.size)).grown hg (Nat.le_trans HSo.out.below.size hb3.size) (fun k hk => by have := hrw k hk; omega)
   have hle2 : (acc ++ [(y.1, (aoN, capN, y.2.2.2))]).length = acc.length + 1 := by simp
   clear ho hg hloc
   rw [hle2] at HSo4
   go_roundw
   case rel => exact ⟨k + 1, _, by omega, by go_num, HSo4.out⟩
   case measure => simp [intOf]; omega
  ·have HTK : Hid (whp acc = whp s.wl) := by show _ = _; rw [HSo.out.tk, List.take_of_length_le (by omega)]
   have hki : ¬ (k : Int) < (s.wl.length : Int) := by omega
   have HO : Hid (OwnR encW wr (w.heap.size + 2) (.slice aoV acc.length capV) acc) := HSo.out.own
   have hl1 := HSo.out.k1.1
   obtain ⟨w5, hw5⟩ : ∃ w5, w5 = wr.setCell ⟨w.heap.size, 0, none⟩ (.slice aoV acc.length capV) := ⟨_, rfl⟩
   have hbu5 : But w.heap.size (w.heap.size + 1) wr w5 := by rw [hw5]; exact but_set _ _ wr 0 _
   have K5 : Hid (Bk w.heap.size [.slice aoV acc.length capV, .bool s.tip, .slice s.aoH s.held.length s.capH, .slice s.aoT s.touched.length s.capT, .int .i64 s.used, .int .i64 s.heat, .int .i64 s.clock] w5) := by show Bk _ _ _; rw [hw5]; exact HSo.out.k0.put 0 _
   have KR5 : Hid (Bk (w.heap.size + 1) z7 w5) := by show Bk _ _ _; rw [hw5]; exact HSo.out.k1.other (by omega) 0 _
   have HB5 : Hid (Below w.heap.size w w5) := by show Below _ _ _; rw [hw5]; exact HSo.out.below.setCell (Nat.le_refl _) _
   have HF5 : Hid (∀ x ∈ acc, Flx w.heap.size (w.heap.size + 1) w5 x.2.1 x.2.2.2) := fun x hx => by
    have h1 := (HSo.out.fl x hx).1
    have h2 : Flx w.heap.size (w.heap.size + 1) wr x.2.1 x.2.2.2 := ⟨h1.1, h1.2.imp id fun h a ha => ⟨fun e => (h a ha).1 (by rw [e]; simp), fun e => (h a ha).1 (by rw [e]; simp)⟩⟩
    exact h2.but hbu5
   have HHI : Hid (∀ x ∈ acc, x.2.2.2 = [] ∨ ∀ a, x.2.1 = some a → w.heap.size ≤ a.block) := fun x hx => (HSo.out.fl x hx).1.2.imp id fun h a ha => (h a ha).2
   have HNF : Hid (∀ x ∈ acc, x.2.1 = none → x.2.2.1 = 0) := fun x hx => (HSo.out.fl x hx).2
   have HAP : Hid (∀ a, aoV = some a → a.block ≠ w.heap.size ∧ a.block ≠ w.heap.size + 1) := fun a ha => by
    have := (HROW.out a.block (by rw [ha]; rfl)).1
    exact ⟨by omega, by omega⟩
   have HAW : Hid (∀ a, aoV = some a → w.heap.size ≤ a.block) := fun a ha => by
    have := (HROW.out a.block (by rw [ha]; rfl)).1
    omega
   have HR5 : Hid (RdR encW w5 aoV acc) := (own_rd goodW HO.out).but HAP.out hbu5
   have HW5 : Hid (w5 = _) := hw5
   clear hbu5 hw5 s0 s1 s2 s3 s4 s5 s6
   obtain ⟨s0, s1, s2, s3, s4, s5, s6⟩ := (K0.out).c7
   obtain ⟨sf0, sf1, sf2, sf3, sf4, sf5, sf6⟩ := (K0.out).f7
   have lt0 := K0.out.1
   go_wp2_with fail
   rw [← HW5.out]
   clear s0 s1 s2 s3 s4 s5 s6 sf0 sf1 sf2 sf3 sf4 sf5 sf6
   refine (joinB_any s.aoH s.capH s.held w5 (HS.out.next HB5.out).held HN.out.held HH.out).mono ?_
   rintro e w3 ⟨_, rfl, ho, hb⟩
   obtain ⟨aoH2, capH2, e2, hh2⟩ := flxR_of (b := w.heap.size) (m := w.heap.size + 1) ho HS.out.held.1 K5.out.1 KR5.out.1
   subst e2
   have HHH : Hid (s.held = [] ∨ ∀ a, aoH2 = some a → w.heap.size ≤ a.block) := .inr fun a ha => by
    have h1 := (ho.hi a ha).1
    have h2 := HB5.out.size
    omega
   have HNH : Hid (aoH2 = none → capH2 = 0) := ho.nilcap
   obtain ⟨w4, hw4⟩ : ∃ w4, w4 = w3.setCell ⟨w.heap.size, 2, none⟩ (.slice aoH2 s.held.length capH2) := ⟨_, rfl⟩
   have hbu3 : But w.heap.size (w.heap.size + 1) w3 w4 := by rw [hw4]; exact but_set _ _ w3 2 _
   have hbu : But w.heap.size (w.heap.size + 1) w5 w4 := (but_below hb).trans hbu3
   have HH4 : Hid (Flx w.heap.size (w.heap.size + 1) w4 aoH2 s.held) := hh2.but hbu3
   have K3 : Hid (Bk w.heap.size [.slice aoV acc.length capV, .bool s.tip, .slice s.aoH s.held.length s.capH, .slice s.aoT s.touched.length s.capT, .int .i64 s.used, .int .i64 s.heat, .int .i64 s.clock] w3) := K5.out.later hb
   have K4 : Hid (Bk w.heap.size [.slice aoV acc.length capV, .bool s.tip, .slice aoH2 s.held.length capH2, .slice s.aoT s.touched.length s.capT, .int .i64 s.used, .int .i64 s.heat, .int .i64 s.clock] w4) := by show Bk _ _ _; rw [hw4]; exact K3.out.put 2 _
   have KR4 : Hid (Bk (w.heap.size + 1) z7 w4) := by show Bk _ _ _; rw [hw4]; exact (KR5.out.later hb).other (by omega) 2 _
   have HB4 : Hid (Below w.heap.size w w4) := by show Below _ _ _; rw [hw4]; exact (HB5.out.trans (hb.mono HB5.out.size)).setCell (Nat.le_refl _) _
   have HF4 : Hid (∀ x ∈ acc, Flx w.heap.size (w.heap.size + 1) w4 x.2.1 x.2.2.2) := fun x hx => (HF5.out x hx).but hbu
   have HR4 : Hid (RdR encW w4 aoV acc) := HR5.out.but HAP.out hbu
   have HW4 : Hid (w4 = _) := hw4
   have HT4 : Hid (RdR encT w4 s.aoT s.touched) := rd_tx (HS.out.next HB4.out).touched
   have ht9 := HTL.out
   have hle4 : w.heap.size ≤ w4.heap.size := HB4.out.size
   clear ho hb hh2 hbu hbu3 hw4
   obtain ⟨s0, s1, s2, s3, s4, s5, s6⟩ := (K3.out).c7
   obtain ⟨sf0, sf1, sf2, sf3, sf4, sf5, sf6⟩ := (K3.out).f7
   have lt3 := K3.out.1
   go_wp2_with (first
    | (at_builtin; rw [← HW4.out]; refine wpList_append_opt goodT Tryz.underlying25 infoT rfl (by decide) _ rfl (.const (.slice none 0 0)) (.tmp 36) rfl w4.heap.size (.slice none 0 0) [] rfl (OwnR.nil _ _ _) s.aoT s.capT s.touched rfl HT4.out HN.out.touched (by simp [maxLen]; omega) (by simp; omega) (Nat.le_refl _) ?_; intro v6 w6 ho hg hloc; have hb6 : Below w4.heap.size w4 w6 := (brf).grown hg (Nat.le_refl _) (fun k hk => by cases hk); rw [List.nil_append] at ho; obtain ⟨aoT2, capT2, e6, ht2⟩ := txx_of (b := w.heap.size) (m := w.heap.size + 1) ho HS.out.touched.1 K4.out.1 KR4.out.1; subst e6; have K6 : Hid (Bk w.heap.size [.slice aoV acc.length capV, .bool s.tip, .slice aoH2 s.held.length capH2, .slice s.aoT s.touched.length s.capT, .int .i64 s.used, .int .i64 s.heat, .int .i64 s.clock] w6) := K4.out.later hb6; have KR6 : Hid (Bk (w.heap.size + 1) z7 w6) := KR4.out.later hb6; clear s0 s1 s2 s3 s4 s5 s6 sf0 sf1 sf2 sf3 sf4 sf5 sf6 lt3
       have q0 := K6.out.c 0 rfl; have q1 := K6.out.c 1 rfl; have q2 := K6.out.c 2 rfl; have q3 := K6.out.c 3 rfl; have q4 := K6.out.c 4 rfl; have q5 := K6.out.c 5 rfl; have q6 := K6.out.c 6 rfl
       have qf0 := K6.out.f 0 rfl; have qf3 := K6.out.f 3 rfl; have lt6 := K6.out.1
       have p0 := KR6.out.c 0 rfl; have p1 := KR6.out.c 1 rfl; have p2 := KR6.out.c 2 rfl; have p3 := KR6.out.c 3 rfl; have p4 := KR6.out.c 4 rfl; have p5 := KR6.out.c 5 rfl; have p6 := KR6.out.c 6 rfl
       have pf0 := KR6.out.f 0 rfl; have pf1 := KR6.out.f 1 rfl; have pf2 := KR6.out.f 2 rfl; have pf3 := KR6.out.f 3 rfl; have pf4 := KR6.out.f 4 rfl; have pf5 := KR6.out.f 5 rfl; have pf6 := KR6.out.f 6 rfl; have lt7 := KR6.out.1
       have ne1 : w.heap.size ≠ w.heap.size + 1 := by omega
       have ne2 : w.heap.size + 1 ≠ w.heap.size := by omega)
    | go_in)
   have HB6 : Hid (Below w.heap.size w w6) := HB4.out.trans (hb6.mono HB4.out.size)
   have HNT : Hid (aoT2 = none → capT2 = 0) := ho.nilcap
   have HHT : Hid (s.touched = [] ∨ ∀ a, aoT2 = some a → w.heap.size ≤ a.block) := .inr fun a ha => by
    have h1 := (ho.hi a ha).1
    omega
   have hch : But w.heap.size (w.heap.size + 1) w6 ((((((((w6.setCell ⟨w.heap.size, 3, none⟩ (.slice aoT2 s.touched.length capT2)).setCell ⟨w.heap.size + 1, 0, none⟩ (.slice aoV acc.length capV)).setCell ⟨w.heap.size + 1, 1, none⟩ (.bool s.tip)).setCell ⟨w.heap.size + 1, 2, none⟩ (.slice aoH2 s.held.length capH2)).setCell ⟨w.heap.size + 1, 3, none⟩ (.slice aoT2 s.touched.length capT2)).setCell ⟨w.heap.size + 1, 4, none⟩ (.int .i64 s.used)).setCell ⟨w.heap.size + 1, 5, none⟩ (.int .i64 s.heat)).setCell ⟨w.heap.size + 1, 6, none⟩ (.int .i64 s.clock)) :=
    ((((((((but_set _ _ w6 3 _).trans (but_set' _ _ _ 0 _)).trans (but_set' _ _ _ 1 _)).trans (but_set' _ _ _ 2 _)).trans (but_set' _ _ _ 3 _)).trans (but_set' _ _ _ 4 _)).trans (but_set' _ _ _ 5 _)).trans (but_set' _ _ _ 6 _))
   refine bodyPost_ret (v := .agg #[.slice aoV acc.length capV, .bool s.tip, .slice aoH2 s.held.length capH2, .slice aoT2 s.touched.length capT2, .int .i64 s.used, .int .i64 s.heat, .int .i64 s.clock]) (by simp [results, Tryz.results9, go_sem, p0, p1, p2, p3, p4, p5, p6]) rfl ⟨⟨aoV, capV, acc, s.tip, aoH2, capH2, s.held, aoT2, capT2, s.touched, s.used, s.heat, s.clock⟩, ?_, ?_, ?_, ?_, ?_, ?_⟩
   ·rfl
   ·unfold Sm.st
    simp only
    rw [HTK.out]
   ·exact ⟨whs_of ((HR4.out.next goodW hb6).but HAP.out hch) fun x hx => (((HF4.out x hx).next hb6).but hch).1, ((HH4.out.next hb6).but hch).1, (ht2.but hch).1⟩
   ·exact ⟨.inr HAW.out, HHI.out, HHH.out, HHT.out⟩
   ·exact ⟨HNF.out, HNH.out, HNT.out⟩
   ·exact (((((((HB6.out.setCell (Nat.le_refl _) _).setCell (by simp) _).setCell (by simp) _).setCell (by simp) _).setCell (by simp) _).setCell (by simp) _).setCell (by simp) _).setCell (by simp) _
end Go.Proofs.YtfadmpnpgiceeaaGreat

/- mean.Well walked; the law's own seats, noState. -/
namespace Go.Proofs.YtfadmpnpgiceeaaGreat
open Go.RowKit Go.Maps
theorem enX : ∀ args w, (callFunc 40 args).run Tryz.prog w = .ok (.enter 40 args) w := enters_of Tryz.func40 (by kernel_rfl) rfl
set_option maxHeartbeats 1600000 in
theorem well_test (x : Wh) (p : Plc) (B : Nat) (w : World) (hB : Bk B (pcl p) w) :
  Calls Tryz.prog 40 #[whv x, ptr B] w fun e w' => e = .returned (.bool (x.1 == p)) ∧ Below w.heap.size w w' := by
 have hlt := hB.1
 have hne : B ≠ w.heap.size := by omega
 have c0 := hB.c 0 rfl
 have c1 := hB.c 1 rfl
 have c2 := hB.c 2 rfl
 have hpl := fun W => pl_same' x.1 p W
 clear hB
 cases hz : (x.1 == p) with
 | true =>
  simp only [hz] at hpl
  clear hz
  go_enter Tryz.func40, Tryz.ntmps40
  go_wp2
  go_ret
  exact ⟨rfl, (brf).alloc (Nat.le_refl _) _⟩
 | false =>
  simp only [hz] at hpl
  clear hz
  go_enter Tryz.func40, Tryz.ntmps40
  go_wp2
  go_ret
  exact ⟨rfl, (brf).alloc (Nat.le_refl _) _⟩
set_option maxHeartbeats 3200000 in
theorem indexW_any (p : Plc) (B : Nat) (ao : Option Addr) (cap : Nat) (l : List Wh) (w : World) (hB : Bk B (pcl p) w) (hL : Whs w ao l) (hl : l.length ≤ 1000000000) :
  Calls Tryz.prog 39 #[.slice ao l.length cap, .func (.func 40) #[] #[ptr B]] w fun e w' => (∃ r : Int, e = .returned (.int .i64 r) ∧ ((r = -1 ∧ ∀ x ∈ l, (x.1 == p) = false) ∨ ∃ k, ∃ h : k < l.length, r = (k : Int) ∧ ((l[k]'h).1 == p) = true ∧ ∀ x ∈ l.take k, (x.1 == p) = false)) ∧ Below w.heap.size w w' := by
 have HK : Hid (Bk B (pcl p) w) := hB
 have HL : Hid (Whs w ao l) := hL
 have eg := enX
 clear hB hL
 go_enter Tryz.func39, Tryz.ntmps39
 go_wp2
 go_loopw [5, 8] (fun _ i wr => ∃ k : Nat, k ≤ l.length ∧ i = .int .i64 k ∧ (∀ x ∈ l.take k, (x.1 == p) = false) ∧ Below w.heap.size w wr) (fun _ i _ => l.length - (intOf i).toNat)
 case atStart => exact ⟨0, Nat.zero_le _, rfl, (fun f hf => by simp at hf), brf⟩
 case round =>
  obtain ⟨k, hk, rfl, hok, hb⟩ := hrel
  have HB : Hid (Below w.heap.size w wr) := hb
  have HO : Hid (∀ x ∈ l.take k, (x.1 == p) = false) := hok
  clear hb hok
  by_cases hlt : k < l.length
  ·obtain ⟨b, off, rfl, hbx⟩ := (HL.out.next HB.out).at hlt
   have HHit : Hid (((l[k]'hlt).1 == p) = true → ∃ h : k < l.length, ((l[k]'h).1 == p) = true ∧ ∀ x ∈ l.take k, (x.1 == p) = false) := fun h => ⟨hlt, h, HO.out⟩
   have HMiss : Hid (((l[k]'hlt).1 == p) = false → ∀ x ∈ l.take (k + 1), (x.1 == p) = false) := fun h x hx => by
    rw [List.take_succ_eq_append_getElem hlt] at hx
    rcases List.mem_append.1 hx with hx | hx
    ·exact HO.out x hx
    ·rw [List.mem_singleton] at hx; rw [hx]; exact h
   generalize l[k]'hlt = a at *
   obtain ⟨_, c0, c1, c2, c3, _⟩ := hbx
   have hcall := well_test a p B wr (HK.out.later HB.out)
   have hki : (k : Int) < (l.length : Int) := by omega
   cases hq : (a.1 == p) with
   | true =>
    rw [hq] at hcall
    go_wp2_with (go_at_fn 40; refine hcall.mono ?_; rintro e w' ⟨rfl, hb'⟩)
    go_ret
    obtain ⟨h1, h2⟩ := HHit.out hq
    exact ⟨⟨_, rfl, .inr ⟨k, h1, rfl, h2⟩⟩, HB.out.trans (hb'.mono HB.out.size)⟩
   | false =>
    rw [hq] at hcall
    go_wp2_with (go_at_fn 40; refine hcall.mono ?_; rintro e w' ⟨rfl, hb'⟩)
    go_roundw
    case rel => exact ⟨k + 1, by omega, by go_num, HMiss.out hq, HB.out.trans (hb'.mono HB.out.size)⟩
    case measure => simp [intOf]; omega
  ·go_wp2
   go_ret
   exact ⟨⟨_, rfl, .inl ⟨rfl, fun b hb => HO.out b (by rw [List.take_of_length_le (by omega)]; exact hb)⟩⟩, HB.out⟩
set_option maxHeartbeats 1600000 in
theorem cloneB_any (ao : Option Addr) (cap : Nat) (l : List F.Pc) (w : World) (h : RdR encC w ao l) (hl : l.length ≤ 1000000000) :
  Calls Tryz.prog 41 #[.slice ao l.length cap] w fun e w' => ∃ v, e = .returned v ∧ OwnR encC w' w.heap.size v l ∧ Below w.heap.size w w' := by
 have HF : Hid (RdR encC w ao l) := h
 have q22 := eqlNilC
 clear h
 cases ao with
 | none =>
  obtain rfl := rd_none HF.out
  simp only [List.length_nil]
  go_enter Tryz.func41, Tryz.ntmps41
  go_wp2
  go_ret
  exact ⟨_, rfl, OwnR.nil _ _ _, brf⟩
 | some a =>
  go_enter Tryz.func41, Tryz.ntmps41
  go_wp2_with (at_builtin; refine wpList_append_list goodC Tryz.underlying24 infoC rfl (by decide) _ rfl (.tmp 5) (.tmp 6) rfl w.heap.size _ [] rfl ?qc1 a cap l rfl ?qc2 ?qc5 ?qc3 ?qc4 ?_)
  case qc1 => exact World.ownsRow_made w #[] 0 (Nat.le_refl _) (Nat.zero_le _) (by simp)
  case qc2 => exact HF.out.next goodC ((brf).alloc (Nat.le_refl _) _)
  case qc3 => simp; omega
  case qc4 => simp
  case qc5 => simp [maxLen]; omega
  intro v' w1 ho hg _
  go_wp2
  go_ret
  exact ⟨v', rfl, by simpa using ho, ((Below.refl _ w).alloc (Nat.le_refl _) _).grown hg (by simp) (by intro k hk; simp [Value.ownBlock] at hk; omega)⟩
set_option maxHeartbeats 3200000 in
theorem well_any (s : Sm) (p : Plc) (w : World) (hS : SmIn w s) (hw : s.wl.length ≤ 1000000000) (hf : ∀ x ∈ s.wl, x.2.2.2.length ≤ 1000000000) :
  Calls Tryz.prog 13 #[smv s, plv p] w fun e w' => ∃ v, e = .returned v ∧ OwnR encC w' w.heap.size v (wellF s.st.wells p) ∧ Below w.heap.size w w' := by
 have HS : Hid (SmIn w s) := hS
 have HF : Hid (∀ x ∈ s.wl, x.2.2.2.length ≤ 1000000000) := hf
 obtain ⟨w0, hw0⟩ : ∃ w0, w0 = (w.alloc (smo s)).alloc (pobj p) := ⟨_, rfl⟩
 have HB0 : Hid (Below w.heap.size w w0) := by show Below _ _ _; rw [hw0]; exact ((brf).alloc (Nat.le_refl _) _).alloc (by simp) _
 have KS : Hid (Bk w.heap.size (sml s) w0) := by show Bk _ _ _; rw [hw0]; exact (Bk.new w (sml s) 27 w.heap.size rfl).later ((brf).alloc (Nat.le_refl _) _)
 have KP : Hid (Bk (w.heap.size + 1) (pcl p) w0) := by show Bk _ _ _; rw [hw0]; exact Bk.new _ (pcl p) 31 (w.heap.size + 1) (by simp)
 have HW0 : Hid (w0 = _) := hw0
 clear hS hf hw0
 go_enter Tryz.func13, Tryz.ntmps13
 go_wp2_with fail
 rw [← HW0.out]
 refine (indexW_any p (w.heap.size + 1) s.aoW s.capW s.wl w0 KP.out (HS.out.next HB0.out).wells hw).mono ?_
 rintro e w1 ⟨⟨r, rfl, hr⟩, hb1⟩
 have HB1 : Hid (Below w.heap.size w w1) := HB0.out.trans (hb1.mono HB0.out.size)
 have KS1 : Hid (Bk w.heap.size (sml s) w1) := KS.out.later hb1
 clear hb1
 obtain ⟨s0, s1, s2, s3, s4, s5, s6⟩ := (KS1.out).c7
 rcases hr with ⟨rfl, hno⟩ | ⟨k, hk, rfl, hit, hno⟩
 ·have HQ : Hid (wellF s.st.wells p = []) := wellF_miss hno
  clear hno
  go_wp2
  go_ret
  exact ⟨_, rfl, by rw [HQ.out]; exact OwnR.nil _ _ _, HB1.out⟩
 ·have HQ : Hid (wellF s.st.wells p = (s.wl[k]'hk).2.2.2) := wellF_hit hk hno hit
  obtain ⟨b, off, hao, hx⟩ := (HS.out.next HB1.out).wells.at hk
  have hfy := HF.out _ (List.getElem_mem hk)
  generalize s.wl[k]'hk = y at *
  have HX : Hid (WhAt w1 b (off + k * 4) y) := hx
  obtain ⟨_, c0, c1, c2, c3, _⟩ := hx
  rw [hao] at s0
  have hki : (k : Int) < (s.wl.length : Int) := by omega
  clear hno hit hao
  go_wp2_with fail
  refine (cloneB_any y.2.1 y.2.2.1 y.2.2.2 w1 (rd_fl HX.out.fl) hfy).mono ?_
  rintro e w2 ⟨v, rfl, ho, hb2⟩
  obtain ⟨aoV, capV, rfl⟩ := ho.shape
  have HO : Hid (OwnR encC w2 w1.heap.size (.slice aoV y.2.2.2.length capV) y.2.2.2) := ho
  have HB2 : Hid (Below w.heap.size w w2) := HB1.out.trans (hb2.mono HB1.out.size)
  clear ho hb2
  go_wp2
  go_ret
  exact ⟨_, rfl, by rw [HQ.out]; exact HO.out.base HB1.out.size, HB2.out⟩
/-! ### the law's own -/
abbrev encSt : Enc Sit := ⟨62, 14, fun s => (scs s).toList⟩
theorem goodSt : Good encSt := ⟨fun _ => rfl, fun x u hu => by simp at hu; rcases hu with rfl | rfl | rfl | rfl | rfl | rfl | rfl | rfl | rfl | rfl | rfl | rfl | rfl | rfl <;> rfl⟩
theorem infoSt : (Tryz.prog.info? 62).map (fun i => (i.zero, i.size, i.bytes)) = some (some (sv zSt), 14, 128) := by kernel_rfl
theorem rd_sts {w : World} {ao : Option Addr} {l : List Sit} (h : Sts w ao l) : RdR encSt w ao l := by
 rcases h with h | ⟨b, off, e, hc⟩
 ·exact .inl h
 ·by_cases hn : l = []
  ·exact .inl hn
  ·have hl : 0 < l.length := List.length_pos_iff.2 hn
   refine .inr ⟨b, off, e, (hc 0 hl).lt, fun k hk j hj => ?_⟩
   have hx := hc k hk
   generalize l[k]'hk = x at *
   match j, hj with
   | 0, _ => exact hx.c0
   | 1, _ => exact hx.c1
   | 2, _ => exact hx.c2
   | 3, _ => exact hx.c3
   | 4, _ => exact hx.c4
   | 5, _ => exact hx.c5
   | 6, _ => exact hx.c6
   | 7, _ => exact hx.c7
   | 8, _ => exact hx.c8
   | 9, _ => exact hx.c9
   | 10, _ => exact hx.c10
   | 11, _ => exact hx.c11
   | 12, _ => exact hx.c12
   | 13, _ => exact hx.c13
theorem sts_rd {w : World} {ao : Option Addr} {l : List Sit} (h : RdR encSt w ao l) : Sts w ao l := by
 rcases h with h | ⟨b, off, e, hlt, hc⟩
 ·exact .inl h
 ·refine .inr ⟨b, off, e, fun k hk => ?_⟩
  have hx := fun j hj => hc k hk j hj
  generalize l[k]'hk = x at *
  exact ⟨hlt, hx 0 (by decide), hx 1 (by decide), hx 2 (by decide), hx 3 (by decide), hx 4 (by decide), hx 5 (by decide), hx 6 (by decide), hx 7 (by decide), hx 8 (by decide), hx 9 (by decide), hx 10 (by decide), hx 11 (by decide), hx 12 (by decide), hx 13 (by decide)⟩
set_option maxHeartbeats 800000 in
theorem seats_any (ao : Option Addr) (cap : Nat) (l : List Sit) (w : World) (hD : Dk w ao cap l) (hc : ao = none → cap = 0) (hl : l.length ≤ 1000000000) :
  Calls Tryz.prog 8 #[.slice ao l.length cap] w fun e w' => ∃ ao' cap', e = .returned (.slice ao' l.length cap') ∧ Dk w' ao' cap' l ∧ Below w.heap.size w w' := by
 have HF : Hid (RdR encSt w ao l) := rd_sts hD.sts
 have HC : Hid (ao = none → cap = 0) := hc
 have HOK : Hid (∀ s ∈ l, SOk s) := hD.ok
 clear hD hc
 go_enter Tryz.func8, Tryz.ntmps8
 go_wp2_with (at_builtin; refine wpList_append_opt goodSt Tryz.underlying22 infoSt rfl (by decide) _ rfl (.const (.slice none 0 0)) (.tmp 3) rfl w.heap.size (.slice none 0 0) [] rfl (OwnR.nil _ _ _) ao cap l rfl HF.out HC.out (by simp [maxLen]; omega) (by simp; omega) (Nat.le_refl _) ?_; intro v' w1 ho hg hloc; have hb : Below w.heap.size w w1 := (brf).grown hg (Nat.le_refl _) (fun k hk => by cases hk))
 go_ret
 rw [List.nil_append] at ho
 obtain ⟨ao1, cap1, rfl⟩ := ho.shape
 refine ⟨ao1, cap1, rfl, ⟨sts_rd (own_rd goodSt ho), ?_, HOK.out⟩, hb⟩
 rcases ho.read goodSt with ⟨h1, _⟩ | ⟨g, cap', e, hle, _⟩
 ·rw [h1]; exact Nat.zero_le _
 ·injection e with _ _ e3
  rw [e3]; exact hle
set_option maxHeartbeats 1600000 in
theorem noState_any (t : Sm) (w : World) (h : t.st = sta0) :
  Calls Tryz.prog 15 #[smv t] w fun e w' => e = .returned (.bool true) ∧ Below w.heap.size w w' := by
 obtain ⟨aoW, capW, wl, tip, aoH, capH, held, aoT, capT, touched, used, heat, clock⟩ := t
 have e1 : whp wl = [] := congrArg Sta.wells h
 obtain rfl : wl = [] := by unfold whp at e1; simpa using e1
 obtain rfl : tip = false := congrArg Sta.tip h
 obtain rfl : held = [] := congrArg Sta.held h
 obtain rfl : touched = [] := congrArg Sta.touched h
 obtain rfl : used = 0 := congrArg Sta.used h
 obtain rfl : heat = 0 := congrArg Sta.heat h
 obtain rfl : clock = 0 := congrArg Sta.clock h
 clear h e1
 simp only [smv, smc, List.length_nil]
 go_enter Tryz.func15, Tryz.ntmps15
 go_wp2
 go_ret
 exact ⟨rfl, (brf).alloc (Nat.le_refl _) _⟩
end Go.Proofs.YtfadmpnpgiceeaaGreat
