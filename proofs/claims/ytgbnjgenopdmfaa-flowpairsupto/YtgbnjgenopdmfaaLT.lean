/- The law FlowReaches walked. -/
import Derived.Test.YtgbnjgenopdmfaaLS
namespace Go.Proofs.Ytgbnjgenopdmfaa
open Go.RowKit Go.Maps

theorem plA_take {l : List Acn} {n k : Nat} (h : k < n) : plA (l.take n) k = plA l k := by
  unfold plA
  rw [List.getElem?_take_of_lt h]
theorem rchS_take {l : List Acn} {n : Nat} {m : Snc} {s : Shr} (h : s.draw < n ∧ s.put < n) : rchS (l.take n) m s = rchS l m s := by
  unfold rchS
  rw [plA_take h.1, plA_take h.2]
theorem rchF_take {l : List Acn} {n : Nat} {p : Plc} {ss : List Shr} (h : ∀ s ∈ ss, s.draw < n ∧ s.put < n) : rchF (l.take n) p ss = rchF l p ss := by
  induction ss using snocInd with
  | h0 => rfl
  | h1 ss s ih => rw [rchF_snoc, rchF_snoc, ih fun x hx => h x (by simp [hx]), rchS_take (h s (by simp))]
/-- No less by more actions. -/
theorem reach_more (l : List Acn) (n : Nat) (p : Plc) : ∃ t, reachM l p = reachM (l.take n) p ++ t := by
  obtain ⟨r, hr⟩ := shares_take (l := l) (n := n)
  have e : reachM (l.take n) p = rchF l p (shares (l.take n)) := rchF_take fun s hs => by
    have h1 := shares_ok (l.take n) s hs
    have h2 : (l.take n).length ≤ n := by rw [List.length_take]; omega
    exact ⟨Nat.lt_of_lt_of_le h1.1 h2, Nat.lt_of_lt_of_le h1.2.1 h2⟩
  rw [e]
  unfold reachM
  rw [← hr]
  exact rchF_prefix _ _ _ _
theorem pl_same (p q : Plc) (W : World) : (binOp .eql 26 (.agg #[.int .i64 p.1, .int .i64 p.2.1, .int .i64 p.2.2]) (.agg #[.int .i64 q.1, .int .i64 q.2.1, .int .i64 q.2.2])).run Try.prog W = .ok (.bool (decide (p = q))) W := by
  obtain ⟨a, b, c⟩ := p
  obtain ⟨d, e, f⟩ := q
  go_simp
  by_cases h1 : a = d <;> by_cases h2 : b = e <;> by_cases h3 : c = f <;> simp [h1, h2, h3]
theorem wp_binop {P : Program} {o : Oper} {a : Act} {w : World} {K : Act → World → Prop} {Q : Exit → Act → World → Prop} {op : BinOp} {t rt : TypeId} {x y : Operand} {v : Value} (ho : o.op = .binOp op t x y rt) (hg : (eqGuard op t x y (a.eval x) (a.eval y)).run P w = .ok () w) (hr : (binOp op t (a.eval x) (a.eval y)).run P w = .ok v w) (hK : K (a.put o.dst v) w) : o.wp P a w K Q := by
  unfold Oper.wp
  simp [execOp, ho, hg, hr, Result.andThen]
  exact hK
theorem pl_neq (W : World) (p : Plc) : (binOp .neq 26 (.agg #[.int .i64 p.1, .int .i64 p.2.1, .int .i64 p.2.2]) (.agg #[.int .i64 p.1, .int .i64 p.2.1, .int .i64 p.2.2])).run Try.prog W = .ok (.bool false) W := by go_simp
def pkR (n m : Int) : Int := if n < 0 then (-(n + 1)).tmod m else n.tmod m
theorem pkR_in (n m : Int) (hm : 0 < m) : 0 ≤ pkR n m ∧ pkR n m < m := by
  unfold pkR
  split
  · exact ⟨Int.tmod_nonneg _ (by omega), Int.tmod_lt_of_pos _ hm⟩
  · exact ⟨Int.tmod_nonneg _ (by omega), Int.tmod_lt_of_pos _ hm⟩
theorem wrap_in {x : Int} (h : -9223372036854775808 ≤ x) (h2 : x ≤ 9223372036854775807) : IntKind.i64.wrap x = x := by
  rw [IntWalk.i64_left]; exact IntWalk.wrap64_in _ ⟨h, h2⟩
theorem picked_any (n m : Int) (w : World) (h0 : -9223372036854775808 ≤ n) (h1 : n ≤ 9223372036854775807) (hm : 0 < m) (hm2 : m ≤ 1000000) :
    Calls Try.prog 13 #[.int .i64 n, .int .i64 m] w fun e w' => e = .returned (.int .i64 (pkR n m)) ∧ w' = w := by
  have hne : m ≠ 0 := by omega
  by_cases hn : n < 0
  · have hw : IntKind.i64.wrap (n + 1) = n + 1 := wrap_in (by omega) (by omega)
    have HK : Hid (0 ≤ (-(n + 1)).tmod m ∧ (-(n + 1)).tmod m < m) := ⟨Int.tmod_nonneg _ (by omega), Int.tmod_lt_of_pos _ hm⟩
    have HP : Hid (pkR n m = (-(n + 1)).tmod m) := if_pos hn
    go_enter Try.func13, Try.ntmps13
    go_wp2
    go_ret
    refine ⟨ret_int ?_, rfl⟩
    rw [HP.out, Int.neg_tmod]
  · have HK : Hid (0 ≤ n.tmod m ∧ n.tmod m < m) := ⟨Int.tmod_nonneg _ (by omega), Int.tmod_lt_of_pos _ hm⟩
    have HP : Hid (pkR n m = n.tmod m) := if_neg hn
    go_enter Try.func13, Try.ntmps13
    go_wp2
    go_ret
    refine ⟨ret_int ?_, rfl⟩
    rw [HP.out, Int.tmod_eq_emod_of_nonneg (by omega)]
theorem reach_nil (p : Plc) (w : World) (hp : Wf3 p) : Calls Try.prog 8 #[.slice none 0 0, plv p] w fun e w' => Below w.heap.size w w' ∧ ∃ g off cap, e = .returned (.tuple #[.slice (some ⟨g, off, none⟩) 1 cap, .int .i64 0]) ∧
    g < w'.heap.size ∧ w'.cell? ⟨g, off, none⟩ = some (.int .i64 p.1) ∧ w'.cell? ⟨g, off + 1, none⟩ = some (.int .i64 p.2.1) ∧ w'.cell? ⟨g, off + 2, none⟩ = some (.int .i64 p.2.2) := by
  refine (reach_any none 0 [] p w ⟨.inl rfl, fun _ h => by cases h⟩ (fun _ h => by cases h) (by simp) (fun _ h => by cases h) hp).mono ?_
  rintro e w' ⟨hb, ⟨h, _⟩ | ⟨_, s, ao, cap, rfl, hp1, _, hrd, _⟩⟩
  · simp at h
  · have e1 : s = [p] := by
      have : (reachM [] p).map (·.1) = [p] := rfl
      rw [this] at hp1
      exact List.perm_singleton.1 hp1
    subst e1
    rcases hrd with h | ⟨g, off, rfl, hg, hc⟩
    · cases h
    · have c0 := hc 0 (by simp) 0 (by decide)
      have c1 := hc 0 (by simp) 1 (by decide)
      have c2 := hc 0 (by simp) 2 (by decide)
      simp at c0 c1 c2
      exact ⟨hb, g, off, cap, rfl, hg, c0, c1, c2⟩
theorem cut_some (W : World) (ad : Addr) (n cap k : Nat) (hk : k ≤ n) (hn : n ≤ cap) : (Instr.slice 22 (.slice (some ad) n cap) none (some (.int .i64 k)) none).run Try.prog W = .ok (.slice (some ad) k cap) W := by
  go_simp
  intro h
  omega
theorem cut_none (W : World) : (Instr.slice 22 (.slice none 0 0) none (some (.int .i64 0)) none).run Try.prog W = .ok (.slice none 0 0) W := by
  go_simp
theorem RdR.take {α : Type} {c : Enc α} {w : World} {ao : Option Addr} {l : List α} (h : RdR c w ao l) (k : Nat) : RdR c w ao (l.take k) := by
  rcases h with h | ⟨b, off, e, hb, hc⟩
  · exact .inl (by rw [h]; simp)
  · exact .inr ⟨b, off, e, hb, fun i hi j hj => by rw [List.getElem_take]; exact hc i _ j hj⟩
theorem Acs.take {w : World} {ao : Option Addr} {acs : List Acn} (h : Acs w ao acs) (k : Nat) : Acs w ao (acs.take k) := ⟨h.rd.take k, fun a ha => h.ok a (List.mem_of_mem_take ha)⟩
/-- What Reach gives. -/
structure Rs (acs : List Acn) (p : Plc) (w : World) (s : List Plc) (ao : Option Addr) : Prop where
  perm : s.Perm ((reachM acs p).map (·.1))
  rd : RdR encP w ao s
theorem Rs.next {acs : List Acn} {p : Plc} {w w1 : World} {s : List Plc} {ao : Option Addr} (h : Rs acs p w s ao) (hb : Below w.heap.size w w1) : Rs acs p w1 s ao := ⟨h.perm, h.rd.next goodP hb⟩
theorem Rs.at {acs : List Acn} {p : Plc} {w : World} {s : List Plc} {ao : Option Addr} (h : Rs acs p w s ao) {k : Nat} (hk : k < s.length) : ∃ g off, ao = some ⟨g, off, none⟩ ∧ w.cell? ⟨g, off + k * 3, none⟩ = some (.int .i64 (s[k]'hk).1) ∧ w.cell? ⟨g, off + k * 3 + 1, none⟩ = some (.int .i64 (s[k]'hk).2.1) ∧ w.cell? ⟨g, off + k * 3 + 2, none⟩ = some (.int .i64 (s[k]'hk).2.2) := by
  rcases h.rd with rfl | ⟨g, off, e, _, hc⟩
  · simp at hk
  · exact ⟨g, off, e, hc k hk 0 (by decide), hc k hk 1 (by decide), hc k hk 2 (by decide)⟩
theorem reach_ok (ao : Option Addr) (cap n : Nat) (acs : List Acn) (p : Plc) (w : World) (hn : n = acs.length) (hA : Acs w ao acs) (hal : ∀ ad, ao = some ad → acs ≠ [] → ad.block < w.heap.size) (hl : acs.length ≤ 3000) (hpl : ∀ a ∈ acs, Wf3 a.pl) (hp : Wf3 p) :
    Calls Try.prog 8 #[.slice ao n cap, plv p] w fun e w' => Below w.heap.size w w' ∧ ∃ s aoS capS, e = .returned (.tuple #[.slice aoS s.length capS, .int .i64 0]) ∧ Rs acs p w' s aoS := by
  subst hn
  refine (reach_any ao cap acs p w hA hal (by omega) hpl hp).mono ?_
  rintro e w' ⟨hb, ⟨h, _⟩ | ⟨_, s, ao, cap, rfl, hp1, _, hrd, _⟩⟩
  · omega
  · exact ⟨hb, s, ao, cap, rfl, hp1, hrd⟩
theorem reach_big (ao : Option Addr) (cap : Nat) (acs : List Acn) (p : Plc) (w : World) (hA : Acs w ao acs) (hal : ∀ ad, ao = some ad → acs ≠ [] → ad.block < w.heap.size) (hl : 3000 < acs.length) (hla : acs.length ≤ 9223372036854775807) (hpl : ∀ a ∈ acs, Wf3 a.pl) (hp : Wf3 p) :
    Calls Try.prog 8 #[.slice ao acs.length cap, plv p] w fun e w' => Below w.heap.size w w' ∧ e = .returned (.tuple #[.slice none 0 0, .int .i64 7]) := by
  refine (reach_any ao cap acs p w hA hal hla hpl hp).mono ?_
  rintro e w' ⟨hb, ⟨_, rfl⟩ | ⟨h, _⟩⟩
  · exact ⟨hb, rfl⟩
  · omega
set_option linter.unusedVariables false in
def fr2V (F g off c1 : Nat) (p : Plc) (d : Nat) (v : Value) (_ : World) : Prop :=
  match d with
  | 20 => v = .int .i64 0
  | 21 => v = .bool false
  | 22 => v = .bool false
  | 23 => v = .slice (some ⟨g, off, none⟩) 1 c1
  | 24 => v = .int .i64 1
  | 25 => v = .bool false
  | 26 => v = .bool false
  | 27 => v = .bool false
  | 28 => v = .slice (some ⟨g, off, none⟩) 1 c1
  | 29 => v = .pointer (some ⟨g, off, none⟩)
  | 30 => v = .agg #[.int .i64 p.1, .int .i64 p.2.1, .int .i64 p.2.2]
  | 31 => v = .agg #[.int .i64 p.1, .int .i64 p.2.1, .int .i64 p.2.2]
  | 32 => v = .bool false
  | 33 => v = .bool false
  | _ => True
set_option linter.unusedVariables false in
theorem fr2V_mono (F g off c1 : Nat) (p : Plc) (d : Nat) (v : Value) (w w' : World) (h : fr2V F g off c1 p d v w) (_ : Below w.heap.size w w') : fr2V F g off c1 p d v w' := h
def RsT (acs : List Acn) (p : Plc) (v : Value) (w : World) : Prop := ∃ s ao cap, v = .tuple #[.slice ao s.length cap, .int .i64 0] ∧ Rs acs p w s ao
def RsS (acs : List Acn) (p : Plc) (v : Value) (w : World) : Prop := ∃ s ao cap, v = .slice ao s.length cap ∧ Rs acs p w s ao
theorem RsT.next {acs : List Acn} {p : Plc} {v : Value} {w w1 : World} (h : RsT acs p v w) (hb : Below w.heap.size w w1) : RsT acs p v w1 := by
  obtain ⟨s, ao, cap, e, hs⟩ := h
  exact ⟨s, ao, cap, e, hs.next hb⟩
theorem RsS.next {acs : List Acn} {p : Plc} {v : Value} {w w1 : World} (h : RsS acs p v w) (hb : Below w.heap.size w w1) : RsS acs p v w1 := by
  obtain ⟨s, ao, cap, e, hs⟩ := h
  exact ⟨s, ao, cap, e, hs.next hb⟩
set_option linter.unusedVariables false in
def fr7V (F n cap k : Nat) (ao : Option Addr) (cut : Int) (p : Plc) (a2 : List Acn) (i : Nat) (l : List Value) (w : World) : Prop :=
  match i, l with
  | 0, [v] => v = .slice ao n cap
  | 1, [v] => v = .int .i64 cut
  | 2, [v] => v = .slice ao n cap
  | 3, [v] => v = .int .i64 n
  | 4, [v] => v = .int .i64 (n + 1)
  | 5, [v] => v = .int .i64 k
  | 6, [v] => v = .slice ao k cap
  | 7, [v] => v = .agg #[.int .i64 p.1, .int .i64 p.2.1, .int .i64 p.2.2]
  | 8, [v] => RsT a2 p v w
  | 9, [v] => RsT a2 p v w
  | 10, [v] => RsS a2 p v w
  | 11, [v] => v = .int .i64 0
  | 12, [v] => RsS a2 p v w
  | 13, [v] => v = .int .i64 0
  | _, _ => True
theorem fr7V_mono (F n cap k : Nat) (ao : Option Addr) (cut : Int) (p : Plc) (a2 : List Acn) (i : Nat) (l : List Value) (w w' : World) (h : fr7V F n cap k ao cut p a2 i l w) (hb : Below w.heap.size w w') : fr7V F n cap k ao cut p a2 i l w' := by
  unfold fr7V at h ⊢
  split <;> simp only [] at h <;> first | exact h | exact RsT.next h hb | exact RsS.next h hb
set_option linter.unusedVariables false in
def fr17T (ga oa na ca k gs os ns cs i : Nat) (x y : Plc) (b : Bool) (d : Nat) (v : Value) (_ : World) : Prop :=
  match d with
  | 78 => v = .bool true
  | 79 => v = .bool true
  | 89 => v = .bool true
  | _ => True
set_option linter.unusedVariables false in
theorem fr17T_mono (ga oa na ca k gs os ns cs i : Nat) (x y : Plc) (b : Bool) (d : Nat) (v : Value) (w w' : World) (h : fr17T ga oa na ca k gs os ns cs i x y b d v w) (_ : Below w.heap.size w w') : fr17T ga oa na ca k gs os ns cs i x y b d v w' := h
set_option linter.unusedVariables false in
def fr17F (ga oa na ca k gs os ns cs i : Nat) (x y : Plc) (b : Bool) (d : Nat) (v : Value) (_ : World) : Prop :=
  match d with
  | 78 => v = .bool false
  | 79 => v = .bool false
  | 80 => v = .slice (some ⟨ga, oa, none⟩) na ca
  | 81 => v = .int .i64 k
  | 82 => v = .pointer (some ⟨ga, oa + k * 3, none⟩)
  | 83 => v = .agg #[.int .i64 x.1, .int .i64 x.2.1, .int .i64 x.2.2]
  | 84 => v = .slice (some ⟨gs, os, none⟩) ns cs
  | 85 => v = .int .i64 i
  | 86 => v = .pointer (some ⟨gs, os + i * 3, none⟩)
  | 87 => v = .agg #[.int .i64 y.1, .int .i64 y.2.1, .int .i64 y.2.2]
  | 88 => v = .bool b
  | 89 => v = .bool b
  | _ => True
set_option linter.unusedVariables false in
theorem fr17F_mono (ga oa na ca k gs os ns cs i : Nat) (x y : Plc) (b : Bool) (d : Nat) (v : Value) (w w' : World) (h : fr17F ga oa na ca k gs os ns cs i x y b d v w) (_ : Below w.heap.size w w') : fr17F ga oa na ca k gs os ns cs i x y b d v w' := h
set_option maxHeartbeats 6400000 in
set_option maxRecDepth 100000 in
theorem reaches_any (ao : Option Addr) (cap : Nat) (acs : List Acn) (p : Plc) (cut : Int) (w : World) (hA : Acs w ao acs) (hal : ∀ ad, ao = some ad → acs ≠ [] → ad.block < w.heap.size) (hcap : acs.length ≤ cap) (hnil : ao = none → cap = 0) (hla : acs.length ≤ 9223372036854775807) (hpl : ∀ a ∈ acs, Wf3 a.pl) (hp : Wf3 p)
    (hc0 : -9223372036854775808 ≤ cut) (hc1 : cut ≤ 9223372036854775807) :
    Calls Try.prog 5 #[.slice ao acs.length cap, plv p, .int .i64 cut] w fun e w' => e = .returned (.bool true) ∧ Below w.heap.size w w' := by
  have HA : Hid (Acs w ao acs) := hA
  have HAL : Hid (∀ ad, ao = some ad → acs ≠ [] → ad.block < w.heap.size) := hal
  have HPL : Hid (∀ a ∈ acs, Wf3 a.pl) := hpl
  have HP : Hid (Wf3 p) := hp
  have hbA : Below w.heap.size w (w.alloc (pobj p)) := (Below.refl _ _).alloc (Nat.le_refl _) _
  clear hA hal hpl hp
  go_enter Try.func5, Try.ntmps5
  go_wp2_with (go_at_call 8; refine (reach_nil p _ HP.out).mono ?_; rintro e w2 ⟨hb2, g, off, c1, rfl, hg, d0, d1, d2⟩)
  have HB2 : Hid (Below w.heap.size w w2) := below_on hbA hb2
  have KF : Hid (Bk w.heap.size [.int .i64 p.1, .int .i64 p.2.1, .int .i64 p.2.2] w2) := (Bk.new w [.int .i64 p.1, .int .i64 p.2.1, .int .i64 p.2.2] 26 w.heap.size rfl).later hb2
  have HD : Hid (∀ W1, Below w2.heap.size w2 W1 → W1.cell? ⟨g, off, none⟩ = some (.int .i64 p.1) ∧ W1.cell? ⟨g, off + 1, none⟩ = some (.int .i64 p.2.1) ∧ W1.cell? ⟨g, off + 2, none⟩ = some (.int .i64 p.2.2)) := fun W1 hb => ⟨cell_later hb d0, cell_later hb d1, cell_later hb d2⟩
  clear d0 d1 d2 hb2 hbA
  refine region_inv [false, false, false, false, false, false, false, false, false, false, false, false, false, false, false, false, false, false, false, false, true, true, true, true, true, true, true, true, true, true, true, true, true, true, false, false, false, false, false, false, false, false, false, false, false, false, false, false, false, false, false, false, false, false, false, false, false, false, false, false, false, false, false, false, false, false, false, false, false, false, false, false, false, false, false, false, false, false, false, false, false, false, false, false, false, false, false, false, false, false, false, false]
    [(20, [], none), (21, [20], none), (22, [21], none), (23, [22], some (22, false)), (24, [22, 23], some (22, false)), (25, [22, 24], some (22, false)), (26, [22, 25], none), (27, [26], none), (28, [27], some (27, false)), (29, [27, 28], some (27, false)), (30, [27, 29], some (27, false)), (31, [27], some (27, false)), (32, [27, 30, 31], some (27, false)), (33, [27, 32], none)]
    (fr2V w.heap.size g off c1 p) (by kernel_rfl) (by kernel_rfl) (fr2V_mono w.heap.size g off c1 p) ?_ ?_
  · refine ⟨?_, ?_, ?_, ?_, ?_, ?_, ?_, ?_, ?_, ?_, ?_, ?_, ?_, ?_, trivial⟩
    · intro f w1 hb _ K hK
      simp only [over, overL, Nat.reduceAdd]
      go_simp
      exact hK _ _ ⟨_, rfl, by simp only [over, overL, Nat.reduceAdd]; rfl, Below.refl _ _⟩
    · intro f w1 hb ⟨h20, _⟩ K hK
      replace h20 : f 20 = _ := h20
      simp only [over, overL, Nat.reduceAdd, h20]
      go_simp
      exact hK _ _ ⟨_, rfl, by simp only [over, overL, Nat.reduceAdd, h20]; rfl, Below.refl _ _⟩
    · intro f w1 hb ⟨h21, _⟩ K hK
      replace h21 : f 21 = _ := h21
      simp only [over, overL, Nat.reduceAdd, h21]
      go_simp
      exact hK _ _ ⟨_, rfl, by simp only [over, overL, Nat.reduceAdd, h21]; rfl, Below.refl _ _⟩
    · intro f w1 hb ⟨h22, _⟩
      replace h22 : f 22 = _ := h22
      refine ⟨fun _ => ?_, fun hg => absurd h22 hg⟩
      intro K hK
      simp only [over, overL, Nat.reduceAdd, h22]
      go_simp
      exact hK _ _ ⟨_, rfl, by simp only [over, overL, Nat.reduceAdd, h22]; rfl, Below.refl _ _⟩
    · intro f w1 hb ⟨h22, h23, _⟩
      replace h22 : f 22 = _ := h22
      replace h23 : f 23 = _ := h23
      refine ⟨fun _ => ?_, fun hg => absurd h22 hg⟩
      intro K hK
      simp only [over, overL, Nat.reduceAdd, h22, h23]
      go_simp
      exact hK _ _ ⟨_, rfl, by simp only [over, overL, Nat.reduceAdd, h22, h23]; rfl, Below.refl _ _⟩
    · intro f w1 hb ⟨h22, h24, _⟩
      replace h22 : f 22 = _ := h22
      replace h24 : f 24 = _ := h24
      refine ⟨fun _ => ?_, fun hg => absurd h22 hg⟩
      intro K hK
      simp only [over, overL, Nat.reduceAdd, h22, h24]
      go_simp
      exact hK _ _ ⟨_, rfl, by simp only [over, overL, Nat.reduceAdd, h22, h24]; rfl, Below.refl _ _⟩
    · intro f w1 hb ⟨h22, h25, _⟩ K hK
      replace h22 : f 22 = _ := h22
      replace h25 : f 25 = _ := h25
      simp only [over, overL, Nat.reduceAdd, h22, h25]
      go_simp
      exact hK _ _ ⟨_, rfl, by simp only [over, overL, Nat.reduceAdd, h22, h25]; rfl, Below.refl _ _⟩
    · intro f w1 hb ⟨h26, _⟩ K hK
      replace h26 : f 26 = _ := h26
      simp only [over, overL, Nat.reduceAdd, h26]
      go_simp
      exact hK _ _ ⟨_, rfl, by simp only [over, overL, Nat.reduceAdd, h26]; rfl, Below.refl _ _⟩
    · intro f w1 hb ⟨h27, _⟩
      replace h27 : f 27 = _ := h27
      refine ⟨fun _ => ?_, fun hg => absurd h27 hg⟩
      intro K hK
      simp only [over, overL, Nat.reduceAdd, h27]
      go_simp
      exact hK _ _ ⟨_, rfl, by simp only [over, overL, Nat.reduceAdd, h27]; rfl, Below.refl _ _⟩
    · intro f w1 hb ⟨h27, h28, _⟩
      replace h27 : f 27 = _ := h27
      replace h28 : f 28 = _ := h28
      refine ⟨fun _ => ?_, fun hg => absurd h27 hg⟩
      intro K hK
      simp only [over, overL, Nat.reduceAdd, h27, h28]
      go_simp
      exact hK _ _ ⟨_, rfl, by simp only [over, overL, Nat.reduceAdd, h27, h28]; rfl, Below.refl _ _⟩
    · intro f w1 hb ⟨h27, h29, _⟩
      replace h27 : f 27 = _ := h27
      replace h29 : f 29 = _ := h29
      refine ⟨fun _ => ?_, fun hg => absurd h27 hg⟩
      intro K hK
      obtain ⟨q0, q1, q2⟩ := HD.out w1 hb
      simp only [over, overL, Nat.reduceAdd, h27, h29]
      go_simp
      exact hK _ _ ⟨_, rfl, by simp only [over, overL, Nat.reduceAdd, h27, h29]; rfl, Below.refl _ _⟩
    · intro f w1 hb ⟨h27, _⟩
      replace h27 : f 27 = _ := h27
      refine ⟨fun _ => ?_, fun hg => absurd h27 hg⟩
      intro K hK
      have q0 := (KF.out.later hb).c 0 rfl
      have q1 := (KF.out.later hb).c 1 rfl
      have q2 := (KF.out.later hb).c 2 rfl
      simp only [over, overL, Nat.reduceAdd, h27]
      go_simp
      exact hK _ _ ⟨_, rfl, by simp only [over, overL, Nat.reduceAdd, h27]; rfl, Below.refl _ _⟩
    · intro f w1 hb ⟨h27, h30, h31, _⟩
      replace h27 : f 27 = _ := h27
      replace h30 : f 30 = _ := h30
      replace h31 : f 31 = _ := h31
      refine ⟨fun _ => ?_, fun hg => absurd h27 hg⟩
      intro K hK
      have q0 := pl_neq w1 p
      simp only [over, overL, Nat.reduceAdd, h27, h30, h31]
      go_simp
      exact hK _ _ ⟨_, rfl, by simp only [over, overL, Nat.reduceAdd, h27, h30, h31]; rfl, Below.refl _ _⟩
    · intro f w1 hb ⟨h27, h32, _⟩ K hK
      replace h27 : f 27 = _ := h27
      replace h32 : f 32 = _ := h32
      simp only [over, overL, Nat.reduceAdd, h27, h32]
      go_simp
      exact hK _ _ ⟨_, rfl, by simp only [over, overL, Nat.reduceAdd, h27, h32]; rfl, Below.refl _ _⟩
  · intro f w3 hb3 hv
    have h33 : f 33 = .bool false := hv.2.2.2.2.2.2.2.2.2.2.2.2.2.1
    simp only [over, overL, Nat.reduceAdd, h33]
    clear hv h33
    have HB3 : Hid (Below w.heap.size w w3) := below_on HB2.out hb3
    have KF3 : Hid (Bk w.heap.size [.int .i64 p.1, .int .i64 p.2.1, .int .i64 p.2.2] w3) := KF.out.later hb3
    have b0 := KF3.out.c 0 rfl
    have b1 := KF3.out.c 1 rfl
    have b2 := KF3.out.c 2 rfl
    have HA3 : Hid (Acs w3 ao acs) := HA.out.next HB3.out
    have HAL3 : Hid (∀ ad, ao = some ad → acs ≠ [] → ad.block < w3.heap.size) := fun ad e h => Nat.lt_of_lt_of_le (HAL.out ad e h) HB3.out.size
    clear hb3
    by_cases hbig : 3000 < acs.length
    · go_wp2_with (go_at_call 8; refine (reach_big ao cap acs p _ HA3.out HAL3.out hbig hla HPL.out HP.out).mono ?_; rintro e w4 ⟨hb4, rfl⟩)
      go_ret
      exact ⟨rfl, below_on HB3.out hb4⟩
    · go_wp2_with (go_at_call 8; refine (reach_ok ao cap acs.length acs p _ rfl HA3.out HAL3.out (by omega) HPL.out HP.out).mono ?_; rintro e w4 ⟨hb4, all, aoA, ca, rfl, hall⟩)
      have hl : acs.length ≤ 3000 := by omega
      have HALL : Hid (Rs acs p w4 all aoA) := hall
      have HB4 : Hid (Below w.heap.size w w4) := below_on HB3.out hb4
      have KF4 : Hid (Bk w.heap.size [.int .i64 p.1, .int .i64 p.2.1, .int .i64 p.2.2] w4) := KF3.out.later hb4
      have HA4 : Hid (Acs w4 ao acs) := HA3.out.next hb4
      have HAL4 : Hid (∀ ad, ao = some ad → acs ≠ [] → ad.block < w4.heap.size) := fun ad e h => Nat.lt_of_lt_of_le (HAL3.out ad e h) hb4.size
      obtain ⟨k, hk⟩ : ∃ k : Nat, pkR cut ((acs.length : Int) + 1) = k := ⟨(pkR cut ((acs.length : Int) + 1)).toNat, by have := pkR_in cut ((acs.length : Int) + 1) (by omega); omega⟩
      have hkl : k ≤ acs.length := by have := pkR_in cut ((acs.length : Int) + 1) (by omega); omega
      have HPK : Hid (pkR cut ((acs.length : Int) + 1) = k) := hk
      have HTL : Hid ((acs.take k).length = k) := by show _ = _; rw [List.length_take]; omega
      have HCUT : Hid (∀ W, (Instr.slice 22 (.slice ao acs.length cap) none (some (.int .i64 k)) none).run Try.prog W = .ok (.slice ao k cap) W) := by
        intro W
        cases ao with
        | none =>
          have e1 := hnil rfl
          subst e1
          have e2 : acs.length = 0 := by omega
          have e3 : k = 0 := by omega
          rw [e2, e3]
          exact cut_none W
        | some ad => exact cut_some W ad _ _ _ hkl hcap
      clear hall hb4 hk b0 b1 b2 HA3 HAL3 KF3 HB3
      refine region_allD [false, false, false, false, false, false, false, false, false, false, true, true, false, false, false, false, false, false, false, false, false, false, false, false, false, false, false, false, false, false, false, false, false, false, false, false, false, false, false, false, false, false, false, false, false, true, true, true, true, true, true, true, true, true, true, true, true, false, false, false, false, false, false, false, false, false, false, false, false, false, false, false, false, false, false, false, false, false, false, false, false, false, false, false, false, false, false, false, false, false, false, false]
        [([], [46], none), ([], [47], none), ([], [48], none), ([2], [49], none), ([3], [50], none), ([1, 4], [51], none), ([0, 5], [52], none), ([], [53], none), ([6, 7], [54], none), ([8], [45], none), ([9], [55], none), ([9], [56], none), ([10], [10], none), ([11], [11], none)]
        (fr7V w.heap.size acs.length cap k ao cut p (acs.take k)) (fun _ _ => True) (by kernel_rfl) (by kernel_rfl) trivial ?_ ?_
      · refine ⟨?_, ?_, ?_, ?_, ?_, ?_, ?_, ?_, ?_, ?_, ?_, ?_, ?_, ?_, trivial⟩
        · intro f w1 hb hJ _ K hK
          simp only [over, overL, Nat.reduceAdd]
          go_simp
          exact hK _ _ ⟨_, by simp only [over, overL, Nat.reduceAdd]; rfl, rfl, hb, trivial, fun _ h => h⟩
        · intro f w1 hb hJ _ K hK
          simp only [over, overL, Nat.reduceAdd]
          go_simp
          exact hK _ _ ⟨_, by simp only [over, overL, Nat.reduceAdd]; rfl, rfl, hb, trivial, fun _ h => h⟩
        · intro f w1 hb hJ _ K hK
          simp only [over, overL, Nat.reduceAdd]
          go_simp
          exact hK _ _ ⟨_, by simp only [over, overL, Nat.reduceAdd]; rfl, rfl, hb, trivial, fun _ h => h⟩
        · intro f w1 hb hJ ⟨h48, _⟩ K hK
          replace h48 : f 48 = _ := h48
          simp only [over, overL, Nat.reduceAdd, h48]
          go_simp
          exact hK _ _ ⟨_, by simp only [over, overL, Nat.reduceAdd, h48]; rfl, rfl, hb, trivial, fun _ h => h⟩
        · intro f w1 hb hJ ⟨h49, _⟩ K hK
          replace h49 : f 49 = _ := h49
          have q0 : IntKind.i64.wrap ((acs.length : Int) + 1) = (acs.length : Int) + 1 := wrap_in (by omega) (by omega)
          simp only [over, overL, Nat.reduceAdd, h49]
          go_simp
          exact hK _ _ ⟨_, by simp only [over, overL, Nat.reduceAdd, h49]; rfl, rfl, hb, trivial, fun _ h => h⟩
        · intro f w1 hb hJ ⟨h47, h50, _⟩ K hK
          replace h47 : f 47 = _ := h47
          replace h50 : f 50 = _ := h50
          simp only [over, overL, Nat.reduceAdd, h47, h50]
          go_simp
          refine (picked_any cut _ w1 hc0 hc1 (by omega) (by omega)).mono ?_
          rintro e w2 ⟨rfl, rfl⟩
          rw [HPK.out]
          exact hK _ _ ⟨_, by simp only [over, overL, Nat.reduceAdd, h47, h50]; rfl, rfl, hb, trivial, fun _ h => h⟩
        · intro f w1 hb hJ ⟨h46, h51, _⟩ K hK
          replace h46 : f 46 = _ := h46
          replace h51 : f 51 = _ := h51
          have q0 := HCUT.out w1
          simp only [over, overL, Nat.reduceAdd, h46, h51]
          go_simp
          exact hK _ _ ⟨_, by simp only [over, overL, Nat.reduceAdd, h46, h51]; rfl, rfl, hb, trivial, fun _ h => h⟩
        · intro f w1 hb hJ _ K hK
          have q0 := (KF4.out.later hb).c 0 rfl
          have q1 := (KF4.out.later hb).c 1 rfl
          have q2 := (KF4.out.later hb).c 2 rfl
          simp only [over, overL, Nat.reduceAdd]
          go_simp
          exact hK _ _ ⟨_, by simp only [over, overL, Nat.reduceAdd]; rfl, rfl, hb, trivial, fun _ h => h⟩
        · intro f w1 hb hJ ⟨h52, h53, _⟩ K hK
          replace h52 : f 52 = _ := h52
          replace h53 : f 53 = _ := h53
          simp only [over, overL, Nat.reduceAdd, h52, h53]
          go_simp
          refine (reach_ok ao cap k (acs.take k) p w1 HTL.out.symm ((HA4.out.next hb).take k) (fun ad e h => Nat.lt_of_lt_of_le (HAL4.out ad e (fun e2 => h (by rw [e2]; simp))) hb.size) (by have := HTL.out; omega) (fun a ha => HPL.out a (List.mem_of_mem_take ha)) HP.out).mono ?_
          rintro e w2 ⟨hb2, s5, a5, c5, rfl, hs5⟩
          exact hK _ _ ⟨_, by simp only [over, overL, Nat.reduceAdd, h52, h53]; rfl, ⟨s5, a5, c5, rfl, hs5⟩, below_on hb hb2, trivial, fun j h => fr7V_mono w.heap.size acs.length cap k ao cut p (acs.take k) j _ _ _ h hb2⟩
        · intro f w1 hb hJ ⟨h54, _⟩ K hK
          obtain ⟨s5, a5, c5, e5, hs5⟩ : RsT (acs.take k) p (f 54) w1 := h54
          simp only [over, overL, Nat.reduceAdd, e5]
          go_simp
          exact hK _ _ ⟨_, by simp only [over, overL, Nat.reduceAdd, e5]; rfl, ⟨s5, a5, c5, rfl, hs5⟩, hb, trivial, fun _ h => h⟩
        · intro f w1 hb hJ ⟨h45, _⟩ K hK
          obtain ⟨s5, a5, c5, e5, hs5⟩ : RsT (acs.take k) p (f 45) w1 := h45
          simp only [over, overL, Nat.reduceAdd, e5]
          go_simp
          exact hK _ _ ⟨_, by simp only [over, overL, Nat.reduceAdd, e5]; rfl, ⟨s5, a5, c5, rfl, hs5⟩, hb, trivial, fun _ h => h⟩
        · intro f w1 hb hJ ⟨h45, _⟩ K hK
          obtain ⟨s5, a5, c5, e5, hs5⟩ : RsT (acs.take k) p (f 45) w1 := h45
          simp only [over, overL, Nat.reduceAdd, e5]
          go_simp
          exact hK _ _ ⟨_, by simp only [over, overL, Nat.reduceAdd, e5]; rfl, rfl, hb, trivial, fun _ h => h⟩
        · intro f w1 hb hJ ⟨h55, _⟩ K hK
          obtain ⟨s5, a5, c5, e5, hs5⟩ : RsS (acs.take k) p (f 55) w1 := h55
          simp only [over, overL, Nat.reduceAdd, e5]
          go_simp
          exact hK _ _ ⟨_, by simp only [over, overL, Nat.reduceAdd, e5]; rfl, ⟨s5, a5, c5, rfl, hs5⟩, hb, trivial, fun _ h => h⟩
        · intro f w1 hb hJ ⟨h56, _⟩ K hK
          replace h56 : f 56 = .int .i64 0 := h56
          simp only [over, overL, Nat.reduceAdd, h56]
          go_simp
          exact hK _ _ ⟨_, by simp only [over, overL, Nat.reduceAdd, h56]; rfl, rfl, hb, trivial, fun _ h => h⟩
      · intro f2 w5 hb5 _ hv
        obtain ⟨som, aoS, cs, e10, hsom⟩ : RsS (acs.take k) p (f2 10) w5 := hv.2.2.2.2.2.2.2.2.2.2.2.2.1
        have e11 : f2 11 = .int .i64 0 := hv.2.2.2.2.2.2.2.2.2.2.2.2.2.1
        simp only [over, overL, Nat.reduceAdd, e10, e11]
        clear hv e10 e11
        have HSOM : Hid (Rs (acs.take k) p w5 som aoS) := hsom
        have HALL5 : Hid (Rs acs p w5 all aoA) := HALL.out.next hb5
        have HB5 : Hid (Below w.heap.size w w5) := below_on HB4.out hb5
        obtain ⟨t, ht⟩ := reach_more acs k p
        have hsub : ∀ y ∈ som, y ∈ all := fun y hy => by
          have h1 := hsom.perm.mem_iff.1 hy
          refine HALL.out.perm.mem_iff.2 ?_
          rw [ht, List.map_append]
          exact List.mem_append_left _ h1
        have hlen : som.length ≤ all.length := by
          have h1 := hsom.perm.length_eq
          have h2 := HALL.out.perm.length_eq
          rw [ht] at h2
          simp at h1 h2
          omega
        have hmost : all.length ≤ 10000000 := by
          have h2 := HALL.out.perm.length_eq
          have h3 := rch_len acs p (shares acs)
          have h4 := shares_most hl
          simp at h2
          unfold reachM at h2
          omega
        have HSUB : Hid (∀ y ∈ som, y ∈ all) := hsub
        have hli : (som.length : Int) ≤ (all.length : Int) := by omega
        clear hsom hb5 ht hsub
        go_wp2
        generalize decide (all.length < som.length) = bg
        go_loopw [12] (fun i wr => ∃ n : Nat, n ≤ som.length ∧ i = .int .i64 n ∧ Below w5.heap.size w5 wr) (fun i _ => som.length - (intOf i).toNat)
        case atStart => exact ⟨0, Nat.zero_le _, rfl, Below.refl _ _⟩
        case round =>
          obtain ⟨i, hi, rfl, hbr⟩ := hrel
          have HBR : Hid (Below w5.heap.size w5 wr) := hbr
          clear hbr
          by_cases hil : i < som.length
          · have hii : (i : Int) < (som.length : Int) := by omega
            go_wp2
            go_loopw [13, 14] (fun b k wr => ∃ n : Nat, n ≤ all.length ∧ k = .int .i64 n ∧ b = .bool (decide (som[i]'hil ∈ all.take n)) ∧ Below w5.heap.size w5 wr) (fun _ k _ => all.length - (intOf k).toNat)
            case atStart => exact ⟨0, Nat.zero_le _, rfl, by simp, HBR.out⟩
            case round =>
              obtain ⟨k, hk, rfl, rfl, hbr⟩ := hrel
              have HBQ : Hid (Below w5.heap.size w5 wr) := hbr
              clear hbr
              by_cases hkl2 : k < all.length
              · have hki : (k : Int) < (all.length : Int) := by omega
                have HTK : Hid (decide (som[i]'hil ∈ all.take (k + 1)) = (decide (som[i]'hil ∈ all.take k) || decide (all[k]'hkl2 = som[i]'hil))) := by
                  show _ = _
                  rw [← Bool.decide_or]
                  refine decide_eq_decide.2 ?_
                  rw [List.take_succ_eq_append_getElem hkl2, List.mem_append, List.mem_singleton, eq_comm]
                have HAT := (show Hid _ from (HALL5.out.next HBQ.out).at hkl2)
                have HST := (show Hid _ from (HSOM.out.next HBQ.out).at hil)
                generalize all[k]'hkl2 = x at *
                generalize hyy : som[i]'hil = y at *
                by_cases hin : y ∈ all.take k
                · rw [decide_eq_true hin] at HTK ⊢
                  clear hin
                  go_wp2_with fail
                  refine region_seq 12 [false, false, false, false, false, false, false, false, false, false, false, false, false, false, false, false, false, false, false, false, false, false, false, false, false, false, false, false, false, false, false, false, false, false, false, false, false, false, false, false, false, false, false, false, false, false, false, false, false, false, false, false, false, false, false, false, false, false, false, false, false, false, false, false, false, false, false, false, false, false, false, false, false, false, false, false, false, false, true, true, true, true, true, true, true, true, true, true, true, true, false, false]
                    [(78, [], none), (79, [78], none), (80, [79], some (79, false)), (81, [79], some (79, false)), (82, [79, 80, 81], some (79, false)), (83, [79, 82], some (79, false)), (84, [79], some (79, false)), (85, [79], some (79, false)), (86, [79, 84, 85], some (79, false)), (87, [79, 86], some (79, false)), (88, [79, 83, 87], some (79, false)), (89, [79, 88], none)]
                    (fr17T 0 0 0 0 k 0 0 0 0 i p p true) (by kernel_rfl) (by kernel_rfl) (by kernel_rfl) (by kernel_rfl) (by kernel_rfl) (by decide) (fr17T_mono 0 0 0 0 k 0 0 0 0 i p p true) ?_ ?_
                  · refine ⟨?_, ?_, ?_, ?_, ?_, ?_, ?_, ?_, ?_, ?_, ?_, ?_, trivial⟩
                    · intro f w1 hb _ K hK
                      simp only [over, overL, Nat.reduceAdd]
                      go_simp
                      exact hK _ _ ⟨_, rfl, by simp only [over, overL, Nat.reduceAdd]; rfl, Below.refl _ _⟩
                    · intro f w1 hb ⟨h78, _⟩ K hK
                      replace h78 : f 78 = _ := h78
                      simp only [over, overL, Nat.reduceAdd, h78]
                      go_simp
                      exact hK _ _ ⟨_, rfl, by simp only [over, overL, Nat.reduceAdd, h78]; rfl, Below.refl _ _⟩
                    · intro f w1 hb ⟨h79, _⟩
                      replace h79 : f 79 = _ := h79
                      exact ⟨fun hg => absurd (h79.symm.trans hg) (by simp), fun _ => trivial⟩
                    · intro f w1 hb ⟨h79, _⟩
                      replace h79 : f 79 = _ := h79
                      exact ⟨fun hg => absurd (h79.symm.trans hg) (by simp), fun _ => trivial⟩
                    · intro f w1 hb ⟨h79, h80, h81, _⟩
                      replace h79 : f 79 = _ := h79
                      exact ⟨fun hg => absurd (h79.symm.trans hg) (by simp), fun _ => trivial⟩
                    · intro f w1 hb ⟨h79, h82, _⟩
                      replace h79 : f 79 = _ := h79
                      exact ⟨fun hg => absurd (h79.symm.trans hg) (by simp), fun _ => trivial⟩
                    · intro f w1 hb ⟨h79, _⟩
                      replace h79 : f 79 = _ := h79
                      exact ⟨fun hg => absurd (h79.symm.trans hg) (by simp), fun _ => trivial⟩
                    · intro f w1 hb ⟨h79, _⟩
                      replace h79 : f 79 = _ := h79
                      exact ⟨fun hg => absurd (h79.symm.trans hg) (by simp), fun _ => trivial⟩
                    · intro f w1 hb ⟨h79, h84, h85, _⟩
                      replace h79 : f 79 = _ := h79
                      exact ⟨fun hg => absurd (h79.symm.trans hg) (by simp), fun _ => trivial⟩
                    · intro f w1 hb ⟨h79, h86, _⟩
                      replace h79 : f 79 = _ := h79
                      exact ⟨fun hg => absurd (h79.symm.trans hg) (by simp), fun _ => trivial⟩
                    · intro f w1 hb ⟨h79, h83, h87, _⟩
                      replace h79 : f 79 = _ := h79
                      exact ⟨fun hg => absurd (h79.symm.trans hg) (by simp), fun _ => trivial⟩
                    · intro f w1 hb ⟨h79, h88, _⟩ K hK
                      replace h79 : f 79 = _ := h79
                      simp only [over, overL, Nat.reduceAdd, h79]
                      go_simp
                      exact hK _ _ ⟨_, rfl, by simp only [over, overL, Nat.reduceAdd, h79]; rfl, Below.refl _ _⟩
                  · intro f3 w6 hb6 hv
                    have h89 : f3 89 = .bool true := hv.2.2.2.2.2.2.2.2.2.2.2.1
                    simp only [List.drop, over, overL, Nat.reduceAdd, h89]
                    go_wp2
                    go_roundw
                    case rel => exact ⟨k + 1, by omega, by go_num, by rw [HTK.out]; rfl, below_on HBQ.out hb6⟩
                    case measure => simp [intOf]; omega
                · rw [decide_eq_false hin] at HTK ⊢
                  clear hin
                  obtain ⟨ga, oa, rfl, a0, a1, a2⟩ := HAT.out
                  obtain ⟨gs, os, rfl, s0, s1, s2⟩ := HST.out
                  have HX : Hid (∀ W1, Below wr.heap.size wr W1 → W1.cell? ⟨ga, oa + k * 3, none⟩ = some (.int .i64 x.1) ∧ W1.cell? ⟨ga, oa + k * 3 + 1, none⟩ = some (.int .i64 x.2.1) ∧ W1.cell? ⟨ga, oa + k * 3 + 2, none⟩ = some (.int .i64 x.2.2)) := fun W1 hb => ⟨cell_later hb a0, cell_later hb a1, cell_later hb a2⟩
                  have HY : Hid (∀ W1, Below wr.heap.size wr W1 → W1.cell? ⟨gs, os + i * 3, none⟩ = some (.int .i64 y.1) ∧ W1.cell? ⟨gs, os + i * 3 + 1, none⟩ = some (.int .i64 y.2.1) ∧ W1.cell? ⟨gs, os + i * 3 + 2, none⟩ = some (.int .i64 y.2.2)) := fun W1 hb => ⟨cell_later hb s0, cell_later hb s1, cell_later hb s2⟩
                  have HE : Hid (∀ W1, (binOp .eql 26 (.agg #[.int .i64 x.1, .int .i64 x.2.1, .int .i64 x.2.2]) (.agg #[.int .i64 y.1, .int .i64 y.2.1, .int .i64 y.2.2])).run Try.prog W1 = .ok (.bool (decide (x = y))) W1) := fun W1 => pl_same x y W1
                  clear a0 a1 a2 s0 s1 s2 HAT HST
                  generalize decide (x = y) = b at *
                  go_wp2_with fail
                  refine region_seq 12 [false, false, false, false, false, false, false, false, false, false, false, false, false, false, false, false, false, false, false, false, false, false, false, false, false, false, false, false, false, false, false, false, false, false, false, false, false, false, false, false, false, false, false, false, false, false, false, false, false, false, false, false, false, false, false, false, false, false, false, false, false, false, false, false, false, false, false, false, false, false, false, false, false, false, false, false, false, false, true, true, true, true, true, true, true, true, true, true, true, true, false, false]
                    [(78, [], none), (79, [78], none), (80, [79], some (79, false)), (81, [79], some (79, false)), (82, [79, 80, 81], some (79, false)), (83, [79, 82], some (79, false)), (84, [79], some (79, false)), (85, [79], some (79, false)), (86, [79, 84, 85], some (79, false)), (87, [79, 86], some (79, false)), (88, [79, 83, 87], some (79, false)), (89, [79, 88], none)]
                    (fr17F ga oa all.length ca k gs os som.length cs i x y b) (by kernel_rfl) (by kernel_rfl) (by kernel_rfl) (by kernel_rfl) (by kernel_rfl) (by decide) (fr17F_mono ga oa all.length ca k gs os som.length cs i x y b) ?_ ?_
                  · refine ⟨?_, ?_, ?_, ?_, ?_, ?_, ?_, ?_, ?_, ?_, ?_, ?_, trivial⟩
                    · intro f w1 hb _ K hK
                      simp only [over, overL, Nat.reduceAdd]
                      go_simp
                      exact hK _ _ ⟨_, rfl, by simp only [over, overL, Nat.reduceAdd]; rfl, Below.refl _ _⟩
                    · intro f w1 hb ⟨h78, _⟩ K hK
                      replace h78 : f 78 = _ := h78
                      simp only [over, overL, Nat.reduceAdd, h78]
                      go_simp
                      exact hK _ _ ⟨_, rfl, by simp only [over, overL, Nat.reduceAdd, h78]; rfl, Below.refl _ _⟩
                    · intro f w1 hb ⟨h79, _⟩
                      replace h79 : f 79 = _ := h79
                      refine ⟨fun _ => ?_, fun hg => absurd h79 hg⟩
                      intro K hK
                      simp only [over, overL, Nat.reduceAdd, h79]
                      go_simp
                      exact hK _ _ ⟨_, rfl, by simp only [over, overL, Nat.reduceAdd, h79]; rfl, Below.refl _ _⟩
                    · intro f w1 hb ⟨h79, _⟩
                      replace h79 : f 79 = _ := h79
                      refine ⟨fun _ => ?_, fun hg => absurd h79 hg⟩
                      intro K hK
                      simp only [over, overL, Nat.reduceAdd, h79]
                      go_simp
                      exact hK _ _ ⟨_, rfl, by simp only [over, overL, Nat.reduceAdd, h79]; rfl, Below.refl _ _⟩
                    · intro f w1 hb ⟨h79, h80, h81, _⟩
                      replace h79 : f 79 = _ := h79
                      replace h80 : f 80 = _ := h80
                      replace h81 : f 81 = _ := h81
                      refine ⟨fun _ => ?_, fun hg => absurd h79 hg⟩
                      intro K hK
                      simp only [over, overL, Nat.reduceAdd, h79, h80, h81]
                      go_simp
                      exact hK _ _ ⟨_, rfl, by simp only [over, overL, Nat.reduceAdd, h79, h80, h81]; rfl, Below.refl _ _⟩
                    · intro f w1 hb ⟨h79, h82, _⟩
                      replace h79 : f 79 = _ := h79
                      replace h82 : f 82 = _ := h82
                      refine ⟨fun _ => ?_, fun hg => absurd h79 hg⟩
                      intro K hK
                      obtain ⟨q0, q1, q2⟩ := HX.out w1 hb
                      simp only [over, overL, Nat.reduceAdd, h79, h82]
                      go_simp
                      exact hK _ _ ⟨_, rfl, by simp only [over, overL, Nat.reduceAdd, h79, h82]; rfl, Below.refl _ _⟩
                    · intro f w1 hb ⟨h79, _⟩
                      replace h79 : f 79 = _ := h79
                      refine ⟨fun _ => ?_, fun hg => absurd h79 hg⟩
                      intro K hK
                      simp only [over, overL, Nat.reduceAdd, h79]
                      go_simp
                      exact hK _ _ ⟨_, rfl, by simp only [over, overL, Nat.reduceAdd, h79]; rfl, Below.refl _ _⟩
                    · intro f w1 hb ⟨h79, _⟩
                      replace h79 : f 79 = _ := h79
                      refine ⟨fun _ => ?_, fun hg => absurd h79 hg⟩
                      intro K hK
                      simp only [over, overL, Nat.reduceAdd, h79]
                      go_simp
                      exact hK _ _ ⟨_, rfl, by simp only [over, overL, Nat.reduceAdd, h79]; rfl, Below.refl _ _⟩
                    · intro f w1 hb ⟨h79, h84, h85, _⟩
                      replace h79 : f 79 = _ := h79
                      replace h84 : f 84 = _ := h84
                      replace h85 : f 85 = _ := h85
                      refine ⟨fun _ => ?_, fun hg => absurd h79 hg⟩
                      intro K hK
                      simp only [over, overL, Nat.reduceAdd, h79, h84, h85]
                      go_simp
                      exact hK _ _ ⟨_, rfl, by simp only [over, overL, Nat.reduceAdd, h79, h84, h85]; rfl, Below.refl _ _⟩
                    · intro f w1 hb ⟨h79, h86, _⟩
                      replace h79 : f 79 = _ := h79
                      replace h86 : f 86 = _ := h86
                      refine ⟨fun _ => ?_, fun hg => absurd h79 hg⟩
                      intro K hK
                      obtain ⟨q0, q1, q2⟩ := HY.out w1 hb
                      simp only [over, overL, Nat.reduceAdd, h79, h86]
                      go_simp
                      exact hK _ _ ⟨_, rfl, by simp only [over, overL, Nat.reduceAdd, h79, h86]; rfl, Below.refl _ _⟩
                    · intro f w1 hb ⟨h79, h83, h87, _⟩
                      replace h79 : f 79 = _ := h79
                      replace h83 : f 83 = _ := h83
                      replace h87 : f 87 = _ := h87
                      refine ⟨fun _ => ?_, fun hg => absurd h79 hg⟩
                      intro K hK
                      have q0 := HE.out w1
                      simp only [over, overL, Nat.reduceAdd, h79, h83, h87]
                      refine wp_binop rfl (by go_simp) q0 ?_
                      exact hK _ _ ⟨_, rfl, by simp only [over, overL, Nat.reduceAdd, h79, h83, h87], Below.refl _ _⟩
                    · intro f w1 hb ⟨h79, h88, _⟩ K hK
                      replace h79 : f 79 = _ := h79
                      replace h88 : f 88 = _ := h88
                      simp only [over, overL, Nat.reduceAdd, h79, h88]
                      go_simp
                      exact hK _ _ ⟨_, rfl, by simp only [over, overL, Nat.reduceAdd, h79, h88]; rfl, Below.refl _ _⟩
                  · intro f3 w6 hb6 hv
                    have h89 : f3 89 = .bool b := hv.2.2.2.2.2.2.2.2.2.2.2.1
                    simp only [List.drop, over, overL, Nat.reduceAdd, h89]
                    go_wp2
                    go_roundw
                    case rel => exact ⟨k + 1, by omega, by go_num, by rw [HTK.out]; rfl, below_on HBQ.out hb6⟩
                    case measure => simp [intOf]; omega
              · have hki : ¬ (k : Int) < (all.length : Int) := by omega
                have e : all.take k = all := List.take_of_length_le (by omega)
                rw [e, decide_eq_true (HSUB.out _ (List.getElem_mem hil))]
                clear e
                go_wp2
                go_roundw
                case rel => exact ⟨i + 1, by omega, by go_num, HBQ.out⟩
                case measure => simp [intOf]; omega
          · have hii : ¬ (i : Int) < (som.length : Int) := by omega
            go_wp2
            go_ret
            exact ⟨rfl, below_on HB5.out HBR.out⟩
end Go.Proofs.Ytgbnjgenopdmfaa
