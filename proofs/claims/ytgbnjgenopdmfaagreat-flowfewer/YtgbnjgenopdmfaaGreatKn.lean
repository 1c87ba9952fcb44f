import Derived.Test.YtgbnjgenopdmfaaGreatKm
import Derived.Lib.SliceRun

/- slices.Clone, slices.Delete at actions walked. -/
namespace Go.Proofs.YtgbnjgenopdmfaaGreat
open Go.RowKit Go.Maps
theorem eqlNilA (w : World) (a : Option Addr) (n c n' c' : Nat) : (binOp .eql 23 (.slice a n c) (.slice none n' c')).run Tryz.prog w = .ok (.bool a.isNone) w := Lib.run_eql_slice_nil w _ _ a n c n' c' Tryz.underlying23
set_option maxHeartbeats 1600000 in
theorem cloneA_any (ao : Option Addr) (cap : Nat) (l : List Acn) (w : World) (h : RdR encA w ao l) (hl : l.length ≤ 1000000) :
    Calls Tryz.prog 22 #[.slice ao l.length cap] w fun e w' => ∃ v, e = .returned v ∧ OwnR encA w' w.heap.size v l ∧ Below w.heap.size w w' := by
  have HF : Hid (RdR encA w ao l) := h
  have q22 := eqlNilA
  clear h
  cases ao with
  | none =>
    obtain rfl := rd_none HF.out
    simp only [List.length_nil]
    go_enter Tryz.func22, Tryz.ntmps22
    go_wp2
    go_ret
    exact ⟨_, rfl, OwnR.nil _ _ _, Below.refl _ _⟩
  | some a =>
    go_enter Tryz.func22, Tryz.ntmps22
    go_wp2_with (at_builtin; refine wpList_append_list goodA Tryz.underlying23 infoA rfl (by decide) _ rfl (.tmp 5) (.tmp 6) rfl w.heap.size _ [] rfl ?qc1 a cap l rfl ?qc2 ?qc5 ?qc3 ?qc4 ?_)
    case qc1 => exact World.ownsRow_made w #[] 0 (Nat.le_refl _) (Nat.zero_le _) (by simp)
    case qc2 => exact HF.out.next goodA ((Below.refl _ _).alloc (Nat.le_refl _) _)
    case qc3 => simp; omega
    case qc4 => simp
    case qc5 => simp [maxLen]; omega
    intro v' w1 ho hg _
    go_wp2
    go_ret
    exact ⟨v', rfl, by simpa using ho, ((Below.refl _ w).alloc (Nat.le_refl _) _).grown hg (by simp) (by intro k hk; simp [Value.ownBlock] at hk; omega)⟩
/-- Actions of the call's own, from the beginning of block g on. -/
def Lf (w : World) (g : Nat) (acs : List Acn) : Prop := g < w.heap.size ∧ ∀ k (h : k < acs.length) j, j < 8 → w.cell? ⟨g, k * 8 + j, none⟩ = (acl (acs[k]'h))[j]? ∧ w.frozen? ⟨g, k * 8 + j, none⟩ = false
theorem Lf.same {w w1 : World} {g : Nat} {acs : List Acn} (h : Lf w g acs) (hs : w.heap.size ≤ w1.heap.size) (hb : w1.heap[g]? = w.heap[g]?) : Lf w1 g acs :=
  ⟨Nat.lt_of_lt_of_le h.1 hs, fun k hk j hj => ⟨(World.cell?_of_block hb).trans (h.2 k hk j hj).1, (World.frozen?_of_block hb).trans (h.2 k hk j hj).2⟩⟩
theorem Lf.next {w w1 : World} {g : Nat} {acs : List Acn} (h : Lf w g acs) (hb : Below w.heap.size w w1) : Lf w1 g acs := h.same hb.size (hb.block g h.1)
theorem Lf.rd {w : World} {g : Nat} {acs : List Acn} (h : Lf w g acs) : RdR encA w (some ⟨g, 0, none⟩) acs := by
  by_cases hn : acs = []
  · exact .inl hn
  · exact .inr ⟨g, 0, rfl, h.1, fun k hk j hj => by rw [Nat.zero_add]; exact (h.2 k hk j hj).1⟩
theorem Lf.part {w : World} {g : Nat} {acs : List Acn} (h : Lf w g acs) (i n : Nat) : RdR encA w (some ⟨g, i * 8, none⟩) ((acs.drop i).take n) := by
  by_cases hn : (acs.drop i).take n = []
  · exact .inl hn
  · refine .inr ⟨g, i * 8, rfl, h.1, fun k hk j hj => ?_⟩
    rw [List.length_take, List.length_drop] at hk
    have e : ((acs.drop i).take n)[k]'(by rw [List.length_take, List.length_drop]; exact hk) = acs[i + k]'(by omega) := by simp
    have := (h.2 (i + k) (by omega) j hj).1
    rw [show (i + k) * 8 + j = i * 8 + k * 8 + j by omega] at this
    rw [this, ← e]
theorem lf_own {w : World} {base : Nat} {v : Value} {acs : List Acn} (h : OwnR encA w base v acs) (hn : acs ≠ []) : ∃ g cap, v = .slice (some ⟨g, 0, none⟩) acs.length cap ∧ acs.length ≤ cap ∧ cap ≤ maxLen ∧ base ≤ g ∧ Lf w g acs := by
  rcases h.read goodA with ⟨e, _⟩ | ⟨g, cap, e, hc, hb, hg, hcell⟩
  · exact absurd e hn
  · obtain ⟨_, h2⟩ := h
    rcases h2 with ⟨e2, _⟩ | ⟨g2, cap2, cur, e2, _, hh, _, hm, _⟩
    · rw [e] at e2; cases e2
    · rw [e] at e2
      injection e2 with e2 _ e3
      injection e2 with e2
      injection e2 with e2
      subst e2 e3
      exact ⟨g, cap, e, hc, hm, hb, hg, fun k hk j hj => ⟨hcell k hk j hj, by simp [World.frozen?, hh]⟩⟩
theorem acl_at (a : Acn) {j : Nat} (hj : j < 8) : ∃ u, (acl a)[j]? = some u := ⟨_, List.getElem?_eq_getElem (by simp [acl]; omega)⟩
theorem wpList_append_roomA (w : World) {ops : Array Oper} {rest : List Oper} {o : Oper} {a : Act} {Q : Exit → Act → World → Prop} (hgd : o.guard = none) (s x : Operand)
    (ho : o.op = .call { callee := .builtin .append, args := #[s, x], argTypes := #[23, 23] }) (g n cap : Nat) (hs : a.eval s = .slice (some ⟨g, 0, none⟩) n cap) (ad : Addr) (m c : Nat) (l : List Acn) (hx : a.eval x = .slice (some ad) m c) (hm : l.length = m)
    (hq : ∀ j u, (encA.cells l)[j]? = some u → w.cell? (ad.add j) = some u) (hroom : n + m ≤ cap) (hsp : ∀ j, j < (encA.cells l).length → (w.cell? ⟨g, 0 + n * 8 + j, none⟩).isSome = true ∧ w.frozen? ⟨g, 0 + n * 8 + j, none⟩ = false)
    (hK : wpList Tryz.prog ops Q rest (a.put o.dst (.slice (some ⟨g, 0, none⟩) (n + m) cap)) (w.setCells g (0 + n * 8) (encA.cells l))) : wpList Tryz.prog ops Q (o :: rest) a w := by
  obtain ⟨i0, hi, hz0, hz1, hz2⟩ := info_parts infoA
  have hrun := run_append_room_cells (P := Tryz.prog) w 23 o.type 55 i0 Tryz.underlying23 hi g 0 n cap ad m c (encA.cells l) (by rw [hz1, cells_length goodA, hm]) hq (cells_ones goodA l) hroom (fun j hj => by rw [hz1]; exact (hsp j hj).1) (fun j hj => by rw [hz1]; exact (hsp j hj).2)
  rw [hz1] at hrun
  refine wpList_plain hgd fun K hK' => ?_
  unfold Oper.wp
  simp [execOp, ho, resolve, invoke, builtin, hs, hx, hrun, Result.andThen]
  exact hK' _ _ (by simpa using hK)
abbrev zAc : Value := .agg #[.int .i64 0, .int .i64 0, .int .i64 0, .int .i64 0, .string ⟨#[]⟩, .int .i64 0, .int .i64 0, .int .i64 0]
theorem run_clearA (w : World) (ty : TypeId) (g o n c : Nat) (hn : 0 < n) (hc : ∀ j, j < (Builtin.zeroCells zAc.cells n).toList.length → (w.cell? ⟨g, o + j, none⟩).isSome = true) (hf : ∀ j, j < (Builtin.zeroCells zAc.cells n).toList.length → w.frozen? ⟨g, o + j, none⟩ = false) :
    (Builtin.clear_ #[23] ty #[.slice (some ⟨g, o, none⟩) n c]).run Tryz.prog w = .ok (.tuple #[]) (w.setCells g o (Builtin.zeroCells zAc.cells n).toList) := by
  have hst := run_storeCells_cells (P := Tryz.prog) g o (Builtin.zeroCells zAc.cells n).toList 0 w (by simpa using hc) (by simpa using hf) (by
    intro v hv
    simp only [Builtin.zeroCells, Array.toList_map, List.mem_map] at hv
    obtain ⟨k, _, rfl⟩ := hv
    have : k % zAc.cells.size < 8 := Nat.mod_lt _ (by decide)
    generalize k % zAc.cells.size = q at *
    match q, this with
    | 0, _ => rfl
    | 1, _ => rfl
    | 2, _ => rfl
    | 3, _ => rfl
    | 4, _ => rfl
    | 5, _ => rfl
    | 6, _ => rfl
    | 7, _ => rfl)
  simp only [Nat.add_zero] at hst
  obtain ⟨m, rfl⟩ : ∃ m, n = m + 1 := ⟨n - 1, by omega⟩
  have h3 := run_underlying (P := Tryz.prog) Tryz.underlying23
  simp [Builtin.clear_, h3, hst]
theorem zeroA_len (n : Nat) : (Builtin.zeroCells zAc.cells n).toList.length = n * 8 := by simp [Builtin.zeroCells, Value.cells]
end Go.Proofs.YtgbnjgenopdmfaaGreat

/- slices.Delete at actions walked. -/
namespace Go.Proofs.YtgbnjgenopdmfaaGreat
open Go.RowKit Go.Maps
set_option linter.unusedVariables false in
def dlV (g n cap i j : Nat) (d : Nat) (v : Value) (_ : World) : Prop :=
  match d with
  | 20 => v = .slice (some ⟨g, 0, none⟩) n cap
  | 21 => v = .int .i64 (i : Int)
  | 22 => v = .slice (some ⟨g, 0, none⟩) i cap
  | 23 => v = .slice (some ⟨g, 0, none⟩) n cap
  | 24 => v = .int .i64 (j : Int)
  | 25 => v = .slice (some ⟨g, j * 8, none⟩) (n - j) (cap - j)
  | _ => True
set_option linter.unusedVariables false in
theorem dlV_mono (g n cap i j : Nat) (d : Nat) (v : Value) (w w' : World) (h : dlV g n cap i j d v w) (_ : Below w.heap.size w w') : dlV g n cap i j d v w' := h
theorem but_setCells (g : Nat) : ∀ (vs : List Value) (o : Nat) (w : World), But g g w (w.setCells g o vs)
  | [], _, _ => but_below (Below.refl _ _)
  | v :: r, o, w => (but_set g g w o v).trans (but_setCells g r (o + 1) (w.setCell ⟨g, o, none⟩ v))
/-- What is left where two of them are taken out. -/
theorem del_lf {w : World} {g i j n : Nat} {acs : List Acn} (hL : Lf w g acs) (hn : acs.length = n) (hj : j = i + 2) (hjn : j < n) (zs : List Value) :
    Lf ((w.setCells g (0 + i * 8) (encA.cells (acs.drop j))).setCells g ((i + (n - j)) * 8) zs) g (acs.take i ++ acs.drop j) := by
  have hl : (encA.cells (acs.drop j)).length = (n - j) * 8 := by rw [cells_length goodA, List.length_drop, hn]
  have hsz : w.heap.size ≤ ((w.setCells g (0 + i * 8) (encA.cells (acs.drop j))).setCells g ((i + (n - j)) * 8) zs).heap.size := ((but_setCells g _ _ w).trans (but_setCells g _ _ _)).size
  refine ⟨Nat.lt_of_lt_of_le hL.1 hsz, fun k hk c hc => ⟨?_, ?_⟩⟩
  · have hk2 : k < i + (n - j) := by
      rw [List.length_append, List.length_take, List.length_drop, hn] at hk
      omega
    rw [World.cell?_setCells_out g zs _ _ ⟨g, k * 8 + c, none⟩ (fun _ _ => .inl (by show k * 8 + c < (i + (n - j)) * 8; omega))]
    by_cases hki : k < i
    · rw [World.cell?_setCells_out g _ _ _ ⟨g, k * 8 + c, none⟩ (fun _ _ => .inl (by show k * 8 + c < 0 + i * 8; omega)), (hL.2 k (by omega) c hc).1]
      have e : (acs.take i ++ acs.drop j)[k]'hk = acs[k]'(by omega) := by
        rw [List.getElem_append_left (by rw [List.length_take]; omega)]
        simp
      rw [e]
    · obtain ⟨q, rfl⟩ : ∃ q, k = i + q := ⟨k - i, by omega⟩
      have hq : q * 8 + c < (encA.cells (acs.drop j)).length := by rw [hl]; omega
      have h1 := World.cell?_setCells_in g (encA.cells (acs.drop j)) (0 + i * 8) w (fun x hx => by
        rw [hl] at hx
        have hx8 : x % 8 < 8 := Nat.mod_lt _ (by decide)
        obtain ⟨u, hu⟩ := acl_at (acs[i + x / 8]'(by omega)) hx8
        have := (hL.2 (i + x / 8) (by omega) (x % 8) hx8).1
        rw [hu, show (i + x / 8) * 8 + x % 8 = 0 + i * 8 + x by omega] at this
        rw [this]
        rfl) (q * 8 + c) hq
      rw [show (i + q) * 8 + c = 0 + i * 8 + (q * 8 + c) by omega, h1]
      have hqn : q < (acs.drop j).length := by rw [List.length_drop]; omega
      have h2 := cells_at goodA (ps := acs.drop j) hqn (j := c) hc
      rw [show q * encA.sz + c = q * 8 + c from rfl, List.getElem?_eq_getElem hq] at h2
      rw [h2]
      have e : (acs.take i ++ acs.drop j)[i + q]'hk = (acs.drop j)[q]'hqn := by
        rw [List.getElem_append_right (by rw [List.length_take]; omega)]
        congr 1
        rw [List.length_take]
        omega
      rw [e]
  · rw [World.frozen?_setCells, World.frozen?_setCells]
    rw [List.length_append, List.length_take, List.length_drop, hn] at hk
    exact (hL.2 k (by omega) c hc).2
set_option maxHeartbeats 6400000 in
set_option maxRecDepth 100000 in
theorem delA_any (g cap i j n : Nat) (acs : List Acn) (w : World) (hL : Lf w g acs) (hn : acs.length = n) (hj : j = i + 2) (hjn : j < n) (hc : n ≤ cap) (hm : cap ≤ 9223372036854775807) :
    Calls Tryz.prog 47 #[.slice (some ⟨g, 0, none⟩) n cap, .int .i64 (i : Int), .int .i64 (j : Int)] w fun e w' => e = .returned (.slice (some ⟨g, 0, none⟩) (i + (n - j)) cap) ∧ Lf w' g (acs.take i ++ acs.drop j) ∧ But g g w w' := by
  have HL : Hid (Lf w g acs) := hL
  have HN : Hid (acs.length = n) := hn
  have HJ : Hid (j = i + 2) := hj
  have hij : i < j := by omega
  have hne : ((i : Int) == (j : Int)) = false := by simp; omega
  have hcj : ¬ cap = j := by omega
  have hic : i ≤ cap := by omega
  have hjc : j ≤ cap := by omega
  have hjn2 : j ≤ n := by omega
  have hcr : ¬ cap = i + (n - j) := by omega
  clear hL hn hj
  go_enter Tryz.func47, Tryz.ntmps47
  go_wp2_with fail
  refine region_seq 6 [false, false, false, false, false, false, false, false, false, false, false, false, false, false, false, false, false, false, false, false, true, true, true, true, true, true, false, false, false, false, false, false, false]
    [(20, [], none), (21, [], none), (22, [20, 21], none), (23, [], none), (24, [], none), (25, [23, 24], none)]
    (dlV g n cap i j) (by kernel_rfl) (by kernel_rfl) (by kernel_rfl) (by kernel_rfl) (by kernel_rfl) (by decide) (dlV_mono g n cap i j) ?_ ?_
  · refine ⟨?_, ?_, ?_, ?_, ?_, ?_, trivial⟩
    · intro f w1 hb _ K hK
      simp only [over, overL, Nat.reduceAdd]
      go_simp
      exact hK _ _ ⟨_, rfl, by simp only [over, overL, Nat.reduceAdd]; rfl, Below.refl _ _⟩
    · intro f w1 hb _ K hK
      simp only [over, overL, Nat.reduceAdd]
      go_simp
      exact hK _ _ ⟨_, rfl, by simp only [over, overL, Nat.reduceAdd]; rfl, Below.refl _ _⟩
    · intro f w1 hb ⟨h20, h21, _⟩ K hK
      replace h20 : f 20 = _ := h20
      replace h21 : f 21 = _ := h21
      simp only [over, overL, Nat.reduceAdd, h20, h21]
      go_simp
      exact hK _ _ ⟨_, rfl, by simp only [over, overL, Nat.reduceAdd, h20, h21]; rfl, Below.refl _ _⟩
    · intro f w1 hb _ K hK
      simp only [over, overL, Nat.reduceAdd]
      go_simp
      exact hK _ _ ⟨_, rfl, by simp only [over, overL, Nat.reduceAdd]; rfl, Below.refl _ _⟩
    · intro f w1 hb _ K hK
      simp only [over, overL, Nat.reduceAdd]
      go_simp
      exact hK _ _ ⟨_, rfl, by simp only [over, overL, Nat.reduceAdd]; rfl, Below.refl _ _⟩
    · intro f w1 hb ⟨h23, h24, _⟩ K hK
      replace h23 : f 23 = _ := h23
      replace h24 : f 24 = _ := h24
      simp only [over, overL, Nat.reduceAdd, h23, h24]
      go_simp
      exact hK _ _ ⟨_, rfl, by simp only [over, overL, Nat.reduceAdd, h23, h24]; rfl, Below.refl _ _⟩
  intro f w1 hb hv
  have h22 : f 22 = _ := hv.2.2.1
  have h25 : f 25 = _ := hv.2.2.2.2.2.1
  have hL1 := HL.out.next hb
  have HB : Hid (Below w.heap.size w w1) := hb
  have HL1 : Hid (Lf w1 g acs) := hL1
  have HZ : Hid (∀ ty, (Builtin.clear_ #[23] ty #[.slice (some ⟨g, (i + (n - j)) * 8, none⟩) (n - (i + (n - j))) (cap - (i + (n - j)))]).run Tryz.prog (w1.setCells g (0 + i * 8) (encA.cells (acs.drop j))) = .ok (.tuple #[]) ((w1.setCells g (0 + i * 8) (encA.cells (acs.drop j))).setCells g ((i + (n - j)) * 8) (Builtin.zeroCells zAc.cells (n - (i + (n - j)))).toList)) := fun ty => by
    have hl : (encA.cells (acs.drop j)).length = (n - j) * 8 := by rw [cells_length goodA, List.length_drop, HN.out]
    have hJ := HJ.out
    have hN := HN.out
    refine run_clearA _ ty g _ _ _ (by omega) (fun x hx => ?_) (fun x hx => ?_)
    · rw [zeroA_len] at hx
      rw [World.cell?_setCells_out g _ _ _ ⟨g, (i + (n - j)) * 8 + x, none⟩ (fun _ _ => .inr (by rw [hl]; show 0 + i * 8 + (n - j) * 8 ≤ (i + (n - j)) * 8 + x; omega))]
      have hx8 : x % 8 < 8 := Nat.mod_lt _ (by decide)
      obtain ⟨u, hu⟩ := acl_at (acs[i + (n - j) + x / 8]'(by omega)) hx8
      have := (HL1.out.2 (i + (n - j) + x / 8) (by omega) (x % 8) hx8).1
      rw [hu, show (i + (n - j) + x / 8) * 8 + x % 8 = (i + (n - j)) * 8 + x by omega] at this
      rw [this]
      rfl
    · rw [zeroA_len] at hx
      rw [World.frozen?_setCells]
      have hx8 : x % 8 < 8 := Nat.mod_lt _ (by decide)
      have := (HL1.out.2 (i + (n - j) + x / 8) (by omega) (x % 8) hx8).2
      rw [show (i + (n - j) + x / 8) * 8 + x % 8 = (i + (n - j)) * 8 + x by omega] at this
      exact this
  have HQ : Hid (∀ x u, (encA.cells (acs.drop j))[x]? = some u → w1.cell? ((⟨g, j * 8, none⟩ : Addr).add x) = some u) := by
    have := (HL1.out.part j (n - j)).cells goodA (by decide)
    rw [List.take_of_length_le (by rw [List.length_drop, HN.out]; omega)] at this
    exact this
  have HSP : Hid (∀ x, x < (encA.cells (acs.drop j)).length → (w1.cell? ⟨g, 0 + i * 8 + x, none⟩).isSome = true ∧ w1.frozen? ⟨g, 0 + i * 8 + x, none⟩ = false) := fun x hx => by
    rw [cells_length goodA, List.length_drop, HN.out] at hx
    have hx2 : x < (n - j) * 8 := hx
    have hJ := HJ.out
    have hN := HN.out
    have hx8 : x % 8 < 8 := Nat.mod_lt _ (by decide)
    obtain ⟨u, hu⟩ := acl_at (acs[i + x / 8]'(by omega)) hx8
    obtain ⟨a1, a2⟩ := HL1.out.2 (i + x / 8) (by omega) (x % 8) hx8
    rw [show (i + x / 8) * 8 + x % 8 = 0 + i * 8 + x by omega] at a1 a2
    rw [a1, hu]
    exact ⟨rfl, a2⟩
  have HDN : Hid ((acs.drop j).length = n - j) := by show _ = _; rw [List.length_drop, HN.out]
  have HRM : Hid (i + (n - j) ≤ cap) := by show _ ≤ _; omega
  clear hv hb hL1
  simp only [List.drop, over, overL, Nat.reduceAdd, h22, h25]
  refine wpList_append_roomA w1 rfl (.tmp 22) (.tmp 25) rfl g i cap (by simp [Act.eval]) ⟨g, j * 8, none⟩ (n - j) (cap - j) (acs.drop j) (by simp [Act.eval]) HDN.out HQ.out HRM.out HSP.out ?_
  have hz := HZ.out
  have HFI : Hid (Lf ((w1.setCells g (0 + i * 8) (encA.cells (acs.drop j))).setCells g ((i + (n - j)) * 8) (Builtin.zeroCells zAc.cells (n - (i + (n - j)))).toList) g (acs.take i ++ acs.drop j) ∧ But g g w ((w1.setCells g (0 + i * 8) (encA.cells (acs.drop j))).setCells g ((i + (n - j)) * 8) (Builtin.zeroCells zAc.cells (n - (i + (n - j)))).toList)) :=
    ⟨del_lf HL1.out HN.out HJ.out hjn _, ((but_below HB.out).trans (but_setCells g _ _ _)).trans (but_setCells g _ _ _)⟩
  generalize encA.cells (acs.drop j) = news at *
  obtain ⟨W1, hW1⟩ : ∃ W1, W1 = w1.setCells g (0 + i * 8) news := ⟨_, rfl⟩
  rw [← hW1] at hz HFI ⊢
  have hri : i + (n - j) ≤ n := by have := HJ.out; omega
  clear h22 h25 hW1 HZ HQ HSP HDN
  go_wp2
  go_ret
  exact ⟨rfl, HFI.out⟩
end Go.Proofs.YtgbnjgenopdmfaaGreat
