import Derived.Test.YtcajifelbldjnaaGreatHs
import Derived.Test.YtcajifelbldjnaaGreatHi
import Derived.Test.YtcajifelbldjnaaGreatHo
import Derived.Maps.AppendAt
import Derived.OwnWalkIn
import Derived.TacticsInMore
import Derived.LoopNIn
import Derived.LoopIn

/- Points in memory; path.numbers, isNear, isTool, change, turns walked. -/
namespace Go.Proofs.YtcajifelbldjnaaGreat.S
open Go.RowKit
/-- A point at a place of a block. -/
def PtAt (w : World) (b o : Nat) (p : Pt) : Prop := b < w.heap.size ∧ w.cell? ⟨b, o, none⟩ = some (.int .i64 p.x) ∧ w.cell? ⟨b, o + 1, none⟩ = some (.int .i64 p.y) ∧ w.cell? ⟨b, o + 2, none⟩ = some (.int .i64 p.z)
theorem PtAt.next {w w1 : World} {b o : Nat} {p : Pt} (h : PtAt w b o p) (hb : Below w.heap.size w w1) : PtAt w1 b o p := ⟨Nat.lt_of_lt_of_le h.1 hb.size, cell_later hb h.2.1, cell_later hb h.2.2.1, cell_later hb h.2.2.2⟩
theorem PtAt.same {w w1 : World} {b o : Nat} {p : Pt} (h : PtAt w b o p) (hs : w.heap.size ≤ w1.heap.size) (hb : w1.heap[b]? = w.heap[b]?) : PtAt w1 b o p :=
  ⟨Nat.lt_of_lt_of_le h.1 hs, (World.cell?_of_block (a := ⟨b, o, none⟩) hb).trans h.2.1, (World.cell?_of_block (a := ⟨b, o + 1, none⟩) hb).trans h.2.2.1, (World.cell?_of_block (a := ⟨b, o + 2, none⟩) hb).trans h.2.2.2⟩
/-- A slice's memory holds these points. -/
def Pns (w : World) (ao : Option Addr) (l : List Pt) : Prop :=
  l = [] ∨ ∃ b off, ao = some ⟨b, off, none⟩ ∧ ∀ k (h : k < l.length), PtAt w b (off + k * 3) (l[k]'h)
theorem Pns.next {w w1 : World} {ao : Option Addr} {l : List Pt} (h : Pns w ao l) (hb : Below w.heap.size w w1) : Pns w1 ao l :=
  h.imp id fun ⟨b, off, h1, h2⟩ => ⟨b, off, h1, fun k hk => (h2 k hk).next hb⟩
theorem Pns.at {w : World} {ao : Option Addr} {l : List Pt} (h : Pns w ao l) {k : Nat} (hk : k < l.length) : ∃ b off, ao = some ⟨b, off, none⟩ ∧ PtAt w b (off + k * 3) (l[k]'hk) := by
  rcases h with rfl | ⟨b, off, h1, h2⟩
  · exact absurd hk (Nat.not_lt_zero _)
  · exact ⟨b, off, h1, h2 k hk⟩
/-- Where the block of a slice has not turned. -/
theorem Pns.kpt {M : Nat → Prop} {w w1 : World} {ao : Option Addr} {l : List Pt} (h : Pns w ao l) (hk : Kpt M w w1) (hM : l ≠ [] → ∀ ad, ao = some ad → ¬ M ad.block) : Pns w1 ao l := by
  rcases h with h | ⟨b, off, h1, h2⟩
  · exact .inl h
  · by_cases hn : l = []
    · exact .inl hn
    · refine .inr ⟨b, off, h1, fun k hk2 => (h2 k hk2).same hk.size (hk.block b (h2 k hk2).1 (hM hn _ h1))⟩
theorem Pns.lt {w : World} {ao : Option Addr} {l : List Pt} (h : Pns w ao l) (hn : l ≠ []) : ∀ ad, ao = some ad → ad.block < w.heap.size := by
  intro ad e
  rcases h with h | ⟨b, off, h1, h2⟩
  · exact absurd h hn
  · rw [h1] at e
    injection e with e
    subst e
    have hl : 0 < l.length := List.length_pos_iff.2 hn
    exact (h2 0 hl).1
abbrev pcl (p : Pt) : List Value := [.int .i64 p.x, .int .i64 p.y, .int .i64 p.z]
/-- The numbers of a point. -/
theorem pnumbers_any (p : Pt) (w : World) :
    Calls Tryz.prog 58 #[pv p] w fun e w' => e = .returned (pv p) ∧ w' = (w.alloc (.cells #[.int .i64 p.x, .int .i64 p.y, .int .i64 p.z] 29)).alloc (.cells #[.int .i64 p.x, .int .i64 p.y, .int .i64 p.z] 143) := by
  go_enter Tryz.func58, Tryz.ntmps58
  go_wp2
  refine bodyPost_ret (v := pv p) (by simp [results, Tryz.results58, go_sem]) rfl ⟨rfl, rfl⟩
set_option maxHeartbeats 6400000 in
theorem pnear_any (ao : Option Addr) (c : Nat) (ps : List Pt) (w : World) (hP : Pns w ao ps) (hl : ps.length ≤ 9223372036854775807) :
    Calls Tryz.prog 29 #[.slice ao ps.length c] w fun e w' => e = .returned (.bool (ps.all nearP)) ∧ Below w.heap.size w w' := by
  have HP : Hid (Pns w ao ps) := hP
  clear hP
  go_enter Tryz.func29, Tryz.ntmps29
  go_wp2
  go_loopw [9] (fun i wr => ∃ k : Nat, k ≤ ps.length ∧ i = .int .i64 k ∧ (∀ p ∈ ps.take k, nearP p = true) ∧ Below w.heap.size w wr) (fun i _ => ps.length - (intOf i).toNat)
  case atStart => exact ⟨0, Nat.zero_le _, rfl, (fun f hf => by simp at hf), Below.refl _ _⟩
  case round =>
    obtain ⟨k, hk, rfl, hok, hb⟩ := hrel
    obtain ⟨w1, rfl⟩ : ∃ w1, w1 = wr := ⟨_, rfl⟩
    have HB : Hid (Below w.heap.size w w1) := hb
    have HO : Hid (∀ p ∈ ps.take k, nearP p = true) := hok
    clear hb hok
    by_cases hlt : k < ps.length
    · obtain ⟨b, off, rfl, _, c0, c1, c2⟩ := (HP.out.next HB.out).at hlt
      have HX : Hid (∀ p, nearP (ps[k]'hlt) = p → (p = false → ps.all nearP = false) ∧ (p = true → ∀ q ∈ ps.take (k + 1), nearP q = true)) := by
        show ∀ p, _
        rintro p rfl
        refine ⟨fun h => ?_, fun h => ?_⟩
        · rw [List.all_eq_false]; exact ⟨_, List.getElem_mem hlt, by simp [h]⟩
        · rw [List.take_succ_eq_append_getElem hlt]
          intro f hf
          rcases List.mem_append.1 hf with hf | hf
          · exact HO.out f hf
          · simp at hf; subst hf; exact h
      generalize ps[k]'hlt = p at *
      obtain ⟨px, py, pz⟩ := p
      simp only at c0 c1 c2
      have hx := ix0 px py pz
      have hy := ix1 px py pz
      have hz := ix2 px py pz
      go_wp2_with fail
      refine (pnumbers_any ⟨px, py, pz⟩ _).mono ?_
      rintro e w2 ⟨rfl, rfl⟩
      have HB2 : Hid (Below w.heap.size w (((w1.alloc (.cells #[.int .i64 px, .int .i64 py, .int .i64 pz] 29)).alloc (.cells #[.int .i64 px, .int .i64 py, .int .i64 pz] 29)).alloc (.cells #[.int .i64 px, .int .i64 py, .int .i64 pz] 143))) := by
        refine below_grow _ (Nat.le_refl _) (below_grow _ (Nat.le_refl _) (below_grow _ (Nat.le_refl _) HB.out _) _) _
      go_wp2_with fail
      by_cases lpx : px < -10000000
      · have Hn : Hid (nr px = false) := nr_no (.inl lpx)
        have tpx : decide (px < -10000000) = true := decide_eq_true lpx
        refine wp_loop_rounds 4 ?_
        rw [rounds_succ]
        go_wp2
        go_ret
        exact ⟨ret_bool ((HX.out _ rfl).1 (nearP_no (.inl Hn.out))).symm, HB2.out⟩
      by_cases gpx : 10000000 < px
      · have Hn : Hid (nr px = false) := nr_no (.inr gpx)
        have tpx : decide (px < -10000000) = false := decide_eq_false lpx
        have spx : decide (10000000 < px) = true := decide_eq_true gpx
        refine wp_loop_rounds 4 ?_
        rw [rounds_succ]
        go_wp2
        go_ret
        exact ⟨ret_bool ((HX.out _ rfl).1 (nearP_no (.inl Hn.out))).symm, HB2.out⟩
      have Hpx : Hid (nr px = true) := nr_yes (by omega) (by omega)
      have tpx : decide (px < -10000000) = false := decide_eq_false lpx
      have spx : decide (10000000 < px) = false := decide_eq_false gpx
      by_cases lpy : py < -10000000
      · have Hn : Hid (nr py = false) := nr_no (.inl lpy)
        have tpy : decide (py < -10000000) = true := decide_eq_true lpy
        refine wp_loop_rounds 4 ?_
        rw [rounds_succ]
        go_wp2
        rw [rounds_succ]
        go_wp2
        go_ret
        exact ⟨ret_bool ((HX.out _ rfl).1 (nearP_no (.inr (.inl Hn.out)))).symm, HB2.out⟩
      by_cases gpy : 10000000 < py
      · have Hn : Hid (nr py = false) := nr_no (.inr gpy)
        have tpy : decide (py < -10000000) = false := decide_eq_false lpy
        have spy : decide (10000000 < py) = true := decide_eq_true gpy
        refine wp_loop_rounds 4 ?_
        rw [rounds_succ]
        go_wp2
        rw [rounds_succ]
        go_wp2
        go_ret
        exact ⟨ret_bool ((HX.out _ rfl).1 (nearP_no (.inr (.inl Hn.out)))).symm, HB2.out⟩
      have Hpy : Hid (nr py = true) := nr_yes (by omega) (by omega)
      have tpy : decide (py < -10000000) = false := decide_eq_false lpy
      have spy : decide (10000000 < py) = false := decide_eq_false gpy
      by_cases lpz : pz < -10000000
      · have Hn : Hid (nr pz = false) := nr_no (.inl lpz)
        have tpz : decide (pz < -10000000) = true := decide_eq_true lpz
        refine wp_loop_rounds 4 ?_
        rw [rounds_succ]
        go_wp2
        rw [rounds_succ]
        go_wp2
        rw [rounds_succ]
        go_wp2
        go_ret
        exact ⟨ret_bool ((HX.out _ rfl).1 (nearP_no (.inr (.inr Hn.out)))).symm, HB2.out⟩
      by_cases gpz : 10000000 < pz
      · have Hn : Hid (nr pz = false) := nr_no (.inr gpz)
        have tpz : decide (pz < -10000000) = false := decide_eq_false lpz
        have spz : decide (10000000 < pz) = true := decide_eq_true gpz
        refine wp_loop_rounds 4 ?_
        rw [rounds_succ]
        go_wp2
        rw [rounds_succ]
        go_wp2
        rw [rounds_succ]
        go_wp2
        go_ret
        exact ⟨ret_bool ((HX.out _ rfl).1 (nearP_no (.inr (.inr Hn.out)))).symm, HB2.out⟩
      have Hpz : Hid (nr pz = true) := nr_yes (by omega) (by omega)
      have tpz : decide (pz < -10000000) = false := decide_eq_false lpz
      have spz : decide (10000000 < pz) = false := decide_eq_false gpz
      refine wp_loop_rounds 4 ?_
      rw [rounds_succ]
      go_wp2
      rw [rounds_succ]
      go_wp2
      rw [rounds_succ]
      go_wp2
      rw [rounds_succ]
      go_wp2
      go_roundw
      case rel => exact ⟨k + 1, by omega, by go_num, (HX.out _ rfl).2 (by simp [nearP, Hpx.out, Hpy.out, Hpz.out]), HB2.out⟩
      case measure => simp [intOf]; omega
    · go_wp2
      go_ret
      exact ⟨ret_bool (by symm; rw [List.all_eq_true]; intro p hp; exact HO.out p (by rw [List.take_of_length_le (by omega)]; exact hp)), HB.out⟩

/-- Is a box one around its own point? -/
def toolB (b : Bx) : Bool := atMost b.lo ⟨0, 0, 0⟩ && atMost ⟨0, 0, 0⟩ b.hi
theorem toolB_iff {b : Bx} : toolB b = true ↔ (b.lx ≤ 0 ∧ b.ly ≤ 0 ∧ b.lz ≤ 0) ∧ 0 ≤ b.hx ∧ 0 ≤ b.hy ∧ 0 ≤ b.hz := by simp [toolB, atMost_iff]
theorem toolB_yes {b : Bx} (h : (b.lx ≤ 0 ∧ b.ly ≤ 0 ∧ b.lz ≤ 0) ∧ 0 ≤ b.hx ∧ 0 ≤ b.hy ∧ 0 ≤ b.hz) : true = toolB b := (toolB_iff.2 h).symm
theorem toolB_no {b : Bx} (h : ¬((b.lx ≤ 0 ∧ b.ly ≤ 0 ∧ b.lz ≤ 0) ∧ 0 ≤ b.hx ∧ 0 ≤ b.hy ∧ 0 ≤ b.hz)) : false = toolB b := by
  cases e : toolB b with
  | false => rfl
  | true => exact absurd (toolB_iff.1 e) h
set_option maxHeartbeats 3200000 in
theorem isTool_any (a : Bx) (w : World) :
    Calls Tryz.prog 30 #[bv a] w fun e w' => e = .returned (.bool (toolB a)) ∧ Below w.heap.size w w' := by
  obtain ⟨px, py, pz, qx, qy, qz⟩ := a
  have hx := ix0 px py pz
  have hy := ix1 px py pz
  have hz := ix2 px py pz
  go_enter Tryz.func30, Tryz.ntmps30
  go_wp2_with fail
  refine (pnumbers_any ⟨qx, qy, qz⟩ _).mono ?_
  rintro e w1 ⟨rfl, rfl⟩
  go_wp2_with fail
  refine (pnumbers_any ⟨px, py, pz⟩ _).mono ?_
  rintro e w1 ⟨rfl, rfl⟩
  go_wp2_with fail
  by_cases lpx : 0 < px
  · have tpx : decide (0 < px) = true := decide_eq_true lpx
    refine wp_loop_rounds 4 ?_
    rw [rounds_succ]
    go_wp2
    go_ret
    refine ⟨ret_bool (toolB_no (by simp only; omega)), ?_⟩
    repeat (first | exact Below.refl _ _ | refine below_grow _ (Nat.le_refl _) ?_ _)
  have tpx : decide (0 < px) = false := decide_eq_false lpx
  by_cases lqx : qx < 0
  · have tqx : decide (qx < 0) = true := decide_eq_true lqx
    refine wp_loop_rounds 4 ?_
    rw [rounds_succ]
    go_wp2
    go_ret
    refine ⟨ret_bool (toolB_no (by simp only; omega)), ?_⟩
    repeat (first | exact Below.refl _ _ | refine below_grow _ (Nat.le_refl _) ?_ _)
  have tqx : decide (qx < 0) = false := decide_eq_false lqx
  by_cases lpy : 0 < py
  · have tpy : decide (0 < py) = true := decide_eq_true lpy
    refine wp_loop_rounds 4 ?_
    rw [rounds_succ]
    go_wp2
    rw [rounds_succ]
    go_wp2
    go_ret
    refine ⟨ret_bool (toolB_no (by simp only; omega)), ?_⟩
    repeat (first | exact Below.refl _ _ | refine below_grow _ (Nat.le_refl _) ?_ _)
  have tpy : decide (0 < py) = false := decide_eq_false lpy
  by_cases lqy : qy < 0
  · have tqy : decide (qy < 0) = true := decide_eq_true lqy
    refine wp_loop_rounds 4 ?_
    rw [rounds_succ]
    go_wp2
    rw [rounds_succ]
    go_wp2
    go_ret
    refine ⟨ret_bool (toolB_no (by simp only; omega)), ?_⟩
    repeat (first | exact Below.refl _ _ | refine below_grow _ (Nat.le_refl _) ?_ _)
  have tqy : decide (qy < 0) = false := decide_eq_false lqy
  by_cases lpz : 0 < pz
  · have tpz : decide (0 < pz) = true := decide_eq_true lpz
    refine wp_loop_rounds 4 ?_
    rw [rounds_succ]
    go_wp2
    rw [rounds_succ]
    go_wp2
    rw [rounds_succ]
    go_wp2
    go_ret
    refine ⟨ret_bool (toolB_no (by simp only; omega)), ?_⟩
    repeat (first | exact Below.refl _ _ | refine below_grow _ (Nat.le_refl _) ?_ _)
  have tpz : decide (0 < pz) = false := decide_eq_false lpz
  by_cases lqz : qz < 0
  · have tqz : decide (qz < 0) = true := decide_eq_true lqz
    refine wp_loop_rounds 4 ?_
    rw [rounds_succ]
    go_wp2
    rw [rounds_succ]
    go_wp2
    rw [rounds_succ]
    go_wp2
    go_ret
    refine ⟨ret_bool (toolB_no (by simp only; omega)), ?_⟩
    repeat (first | exact Below.refl _ _ | refine below_grow _ (Nat.le_refl _) ?_ _)
  have tqz : decide (qz < 0) = false := decide_eq_false lqz
  refine wp_loop_rounds 4 ?_
  rw [rounds_succ]
  go_wp2
  rw [rounds_succ]
  go_wp2
  rw [rounds_succ]
  go_wp2
  rw [rounds_succ]
  go_wp2
  go_ret
  refine ⟨ret_bool (toolB_yes (by simp only; omega)), ?_⟩
  repeat (first | exact Below.refl _ _ | refine below_grow _ (Nat.le_refl _) ?_ _)
/-- How far it is from one point to another, number by number. -/
def chg (a b : Pt) : Pt := ⟨b.x - a.x, b.y - a.y, b.z - a.z⟩
theorem chg_at (a b : Pt) (k : Nat) : (chg a b).at k = b.at k - a.at k := by
  unfold chg Pt.at
  split <;> rfl
theorem SmP.at {p : Pt} (h : SmP p) (k : Nat) : -100000000000 ≤ p.at k ∧ p.at k ≤ 100000000000 := by
  obtain ⟨h1, h2, h3⟩ := h
  unfold Pt.at
  split <;> omega
def ch1V (p q : Pt) (n : Nat) (d : Nat) (v : Value) (w : World) : Prop :=
  match d with
  | 8 => v = pv p
  | 9 => v = pv p
  | 10 => v = pv q
  | 11 => v = pv q
  | 5 => ∃ b, v = ptr b ∧ n ≤ b ∧ Arr b (fun _ => 0) w
  | 6 => ∃ b, v = ptr b ∧ n ≤ b ∧ Arr b (fun _ => 0) w
  | _ => True
theorem ch1V_mono (p q : Pt) (n : Nat) (d : Nat) (v : Value) (w w' : World) (h : ch1V p q n d v w) (hb : Below w.heap.size w w') : ch1V p q n d v w' := by
  unfold ch1V at h ⊢
  split <;> simp only [] at h <;> first | exact h | (obtain ⟨b, h1, h2, h3⟩ := h; exact ⟨b, h1, h2, h3.later hb⟩)
def ch5V (p q r : Pt) (b7 b8 k : Nat) (d : Nat) (v : Value) (_w : World) : Prop :=
  match d with
  | 15 => v = .int .i64 (k : Int)
  | 16 => v = .pointer (some ⟨b7, k, none⟩)
  | 17 => v = .int .i64 (p.at k)
  | 18 => v = .int .i64 (k : Int)
  | 19 => v = .pointer (some ⟨b8, k, none⟩)
  | 20 => v = .int .i64 (q.at k)
  | 21 => v = .int .i64 (r.at k)
  | _ => True

set_option maxHeartbeats 6400000 in
set_option maxRecDepth 100000 in
theorem change_any (q p : Pt) (w : World) (hq : SmP q) (hp : SmP p) :
    Calls Tryz.prog 63 #[pv q, pv p] w fun e w' => e = .returned (pv (chg q p)) ∧ Below w.heap.size w w' := by
  have HG : Hid (∀ k, Value.int .i64 (IntKind.i64.wrap (p.at k - q.at k)) = .int .i64 ((chg q p).at k)) := fun k => by
    have h1 := hp.at k
    have h2 := hq.at k
    rw [chg_at, wrap_is (by omega) (by omega)]
  clear hp hq
  obtain ⟨r, hr⟩ : ∃ r, r = chg q p := ⟨_, rfl⟩
  rw [← hr] at HG ⊢
  clear hr
  obtain ⟨w0, hw0⟩ : ∃ w0, w0 = ((w.alloc (po q)).alloc (po p)).alloc (.cells #[.int .i64 0, .int .i64 0, .int .i64 0] 143) := ⟨_, rfl⟩
  have HW0 : Hid (w0 = ((w.alloc (po q)).alloc (po p)).alloc (.cells #[.int .i64 0, .int .i64 0, .int .i64 0] 143)) := hw0
  have HS0 : Hid (w0.heap.size = w.heap.size + 1 + 1 + 1) := by show w0.heap.size = _; rw [hw0]; simp
  clear hw0
  go_enter Tryz.func63, Tryz.ntmps63
  go_wp2_with fail
  rw [← HW0.out]
  have HR : Hid (Arr (w.heap.size + 1 + 1) (fun _ => 0) w0) := by
    show Arr _ _ _
    rw [HW0.out]
    refine ⟨by simp, fun j hj => ?_, fun j hj => ?_⟩
    all_goals
      rcases (show j = 0 ∨ j = 1 ∨ j = 2 by omega) with e | e | e
      all_goals (subst e; go_simp)
  have p0 : w0.cell? ⟨w.heap.size + 1, 0, none⟩ = some (.int .i64 p.x) := by rw [HW0.out]; go_simp
  have p1 : w0.cell? ⟨w.heap.size + 1, 1, none⟩ = some (.int .i64 p.y) := by rw [HW0.out]; go_simp
  have p2 : w0.cell? ⟨w.heap.size + 1, 2, none⟩ = some (.int .i64 p.z) := by rw [HW0.out]; go_simp
  have q0 : w0.cell? ⟨w.heap.size, 0, none⟩ = some (.int .i64 q.x) := by rw [HW0.out]; go_simp
  have q1 : w0.cell? ⟨w.heap.size, 1, none⟩ = some (.int .i64 q.y) := by rw [HW0.out]; go_simp
  have q2 : w0.cell? ⟨w.heap.size, 2, none⟩ = some (.int .i64 q.z) := by rw [HW0.out]; go_simp
  refine region_seqJ 6 [false, false, false, false, false, true, true, false, true, true, true, true, false, false, false, false, false, false, false, false, false, false, false, false, false]
    [(8, [], none), (9, [8], none), (10, [], none), (11, [10], none), (5, [], none), (6, [], none)]
    (ch1V p q w0.heap.size) (Apart 5 6) ?_ (by kernel_rfl) (by kernel_rfl) (by kernel_rfl) (by kernel_rfl) (by kernel_rfl) (by decide) (ch1V_mono p q w0.heap.size) ?_ ?_
  · intro w1 _
    refine ⟨fun b e => ?_, fun b e => ?_, fun b e _ => ?_⟩
    all_goals (simp [undef] at e)
  · refine ⟨?_, ?_, ?_, ?_, ?_, ?_, trivial⟩
    · intro f w1 hb hJ _ K hK
      have c0 := cell_later hb p0
      have c1 := cell_later hb p1
      have c2 := cell_later hb p2
      simp only [over, overL, Nat.reduceAdd]
      go_simp
      exact hK _ _ ⟨_, rfl, by simp only [over, overL, Nat.reduceAdd]; rfl, Below.refl _ _, hJ.other (by decide) (by decide) (Below.refl _ _)⟩
    · intro f w1 hb hJ ⟨h8, _⟩ K hK
      have h8 : f 8 = _ := h8
      simp only [over, overL, Nat.reduceAdd, h8]
      go_simp
      refine (pnumbers_any p w1).mono ?_
      rintro e w2 ⟨rfl, hw⟩
      have hbn : Below w1.heap.size w1 w2 := by rw [hw]; exact ((Below.refl _ _).alloc (Nat.le_refl _) _).alloc (by simp) _
      exact hK _ _ ⟨_, rfl, by simp only [over, overL, Nat.reduceAdd, h8]; rfl, hbn, hJ.other (by decide) (by decide) hbn⟩
    · intro f w1 hb hJ _ K hK
      have c0 := cell_later hb q0
      have c1 := cell_later hb q1
      have c2 := cell_later hb q2
      simp only [over, overL, Nat.reduceAdd]
      go_simp
      exact hK _ _ ⟨_, rfl, by simp only [over, overL, Nat.reduceAdd]; rfl, Below.refl _ _, hJ.other (by decide) (by decide) (Below.refl _ _)⟩
    · intro f w1 hb hJ ⟨h10, _⟩ K hK
      have h10 : f 10 = _ := h10
      simp only [over, overL, Nat.reduceAdd, h10]
      go_simp
      refine (pnumbers_any q w1).mono ?_
      rintro e w2 ⟨rfl, hw⟩
      have hbn : Below w1.heap.size w1 w2 := by rw [hw]; exact ((Below.refl _ _).alloc (Nat.le_refl _) _).alloc (by simp) _
      exact hK _ _ ⟨_, rfl, by simp only [over, overL, Nat.reduceAdd, h10]; rfl, hbn, hJ.other (by decide) (by decide) hbn⟩
    · intro f w1 hb hJ _ K hK
      simp only [over, overL, Nat.reduceAdd]
      go_simp
      exact hK _ _ ⟨_, ⟨_, rfl, hb.size, Arr.new w1⟩, by simp only [over, overL, Nat.reduceAdd]; rfl, (Below.refl _ _).alloc (Nat.le_refl _) _, hJ.left (by decide)⟩
    · intro f w1 hb hJ _ K hK
      simp only [over, overL, Nat.reduceAdd]
      go_simp
      exact hK _ _ ⟨_, ⟨_, rfl, hb.size, Arr.new w1⟩, by simp only [over, overL, Nat.reduceAdd]; rfl, (Below.refl _ _).alloc (Nat.le_refl _) _, hJ.right (by decide)⟩
  intro f w1 hb1 hJ h
  have h9 : f 9 = pv p := h.2.1
  have h11 : f 11 = pv q := h.2.2.2.1
  obtain ⟨b7, h7, n7, A7⟩ := (show ∃ b, f 5 = ptr b ∧ w0.heap.size ≤ b ∧ Arr b (fun _ => 0) w1 from h.2.2.2.2.1)
  obtain ⟨b8, h8, n8, A8⟩ := (show ∃ b, f 6 = ptr b ∧ w0.heap.size ≤ b ∧ Arr b (fun _ => 0) w1 from h.2.2.2.2.2.1)
  have hne : b7 ≠ b8 := fun e => hJ.2.2 b7 h7 (by rw [h8, e])
  simp only [over_eq, overL, h7, h8, h9, h11, Nat.reduceAdd, List.drop_succ_cons, List.drop_zero]
  have hA : Arr b7 p.at ((((((w1.setCell ⟨b7, 0, none⟩ (.int .i64 p.x)).setCell ⟨b7, 1, none⟩ (.int .i64 p.y)).setCell ⟨b7, 2, none⟩ (.int .i64 p.z)).setCell ⟨b8, 0, none⟩ (.int .i64 q.x)).setCell ⟨b8, 1, none⟩ (.int .i64 q.y)).setCell ⟨b8, 2, none⟩ (.int .i64 q.z)) := by
    have h1 := ((((((A7.set (k := 0) (by decide) p.x).set (k := 1) (by decide) p.y).set (k := 2) (by decide) p.z).other hne 0 (.int .i64 q.x)).other hne 1 (.int .i64 q.y)).other hne 2 (.int .i64 q.z))
    refine ⟨h1.lt, fun j hj => ?_, h1.free⟩
    rw [h1.cell j hj]
    rcases (show j = 0 ∨ j = 1 ∨ j = 2 by omega) with e | e | e
    all_goals (subst e; rfl)
  have hB : Arr b8 q.at ((((((w1.setCell ⟨b7, 0, none⟩ (.int .i64 p.x)).setCell ⟨b7, 1, none⟩ (.int .i64 p.y)).setCell ⟨b7, 2, none⟩ (.int .i64 p.z)).setCell ⟨b8, 0, none⟩ (.int .i64 q.x)).setCell ⟨b8, 1, none⟩ (.int .i64 q.y)).setCell ⟨b8, 2, none⟩ (.int .i64 q.z)) := by
    have h1 := ((((((A8.other (Ne.symm hne) 0 (.int .i64 p.x)).other (Ne.symm hne) 1 (.int .i64 p.y)).other (Ne.symm hne) 2 (.int .i64 p.z)).set (k := 0) (by decide) q.x).set (k := 1) (by decide) q.y).set (k := 2) (by decide) q.z)
    refine ⟨h1.lt, fun j hj => ?_, h1.free⟩
    rw [h1.cell j hj]
    rcases (show j = 0 ∨ j = 1 ∨ j = 2 by omega) with e | e | e
    all_goals (subst e; rfl)
  have hBel : Below w0.heap.size w0 ((((((w1.setCell ⟨b7, 0, none⟩ (.int .i64 p.x)).setCell ⟨b7, 1, none⟩ (.int .i64 p.y)).setCell ⟨b7, 2, none⟩ (.int .i64 p.z)).setCell ⟨b8, 0, none⟩ (.int .i64 q.x)).setCell ⟨b8, 1, none⟩ (.int .i64 q.y)).setCell ⟨b8, 2, none⟩ (.int .i64 q.z)) :=
    (((((hb1.setCell n7 _).setCell n7 _).setCell n7 _).setCell n8 _).setCell n8 _).setCell n8 _
  have a0 := A7.cell 0 (by decide)
  have a1 := A7.cell 1 (by decide)
  have a2 := A7.cell 2 (by decide)
  have d0 := A8.cell 0 (by decide)
  have d1 := A8.cell 1 (by decide)
  have d2 := A8.cell 2 (by decide)
  have e0 := A7.free 0 (by decide)
  have e1 := A7.free 1 (by decide)
  have e2 := A7.free 2 (by decide)
  have g0 := A8.free 0 (by decide)
  have g1 := A8.free 1 (by decide)
  have g2 := A8.free 2 (by decide)
  have HA := (show Hid _ from hA)
  have HB := (show Hid _ from hB)
  have HBel := (show Hid _ from hBel)
  have HN : Hid (w0.heap.size ≤ b7) := n7
  have HNE : Hid (b7 ≠ b8) := hne
  clear A7 A8 hA hB hBel hJ h h7 h8 h9 h11 hb1 n7 n8 p0 p1 p2 q0 q1 q2
  go_wp2_with fail
  clear a0 a1 a2 d0 d1 d2 e0 e1 e2 g0 g1 g2
  generalize ((((((w1.setCell ⟨b7, 0, none⟩ (.int .i64 p.x)).setCell ⟨b7, 1, none⟩ (.int .i64 p.y)).setCell ⟨b7, 2, none⟩ (.int .i64 p.z)).setCell ⟨b8, 0, none⟩ (.int .i64 q.x)).setCell ⟨b8, 1, none⟩ (.int .i64 q.y)).setCell ⟨b8, 2, none⟩ (.int .i64 q.z)) = w2 at *
  go_loopw [7, 12] (fun _ i wr => ∃ k : Nat, k ≤ 3 ∧ i = .int .i64 k ∧ Arr b7 (fun j => if j < k then r.at j else p.at j) wr ∧ Arr b8 q.at wr ∧ Below w0.heap.size w0 wr) (fun _ i _ => 3 - (intOf i).toNat)
  case atStart => exact ⟨0, Nat.zero_le _, rfl, by simpa using HA.out, HB.out, HBel.out⟩
  case round =>
    obtain ⟨k, hk, rfl, hA, hB, hBel⟩ := hrel
    have HA := (show Hid _ from hA)
    have HB := (show Hid _ from hB)
    have HBel := (show Hid _ from hBel)
    clear hA hB hBel
    by_cases hlt : k < 3
    · have ck : wr.cell? ⟨b7, k, none⟩ = some (.int .i64 (p.at k)) := by
        have := HA.out.cell k hlt
        simpa using this
      have dk := HB.out.cell k hlt
      have fk := HA.out.free k hlt
      have HV : Hid (Value.int .i64 (IntKind.i64.wrap (p.at k - q.at k)) = .int .i64 (r.at k)) := HG.out k
      go_wp2_with fail
      rw [show decide ((k : Int) < 3) = true by simp; omega]
      refine region_seq 7 [false, false, false, false, false, false, false, false, false, false, false, false, false, false, false, true, true, true, true, true, true, true, false, false, false]
        [(15, [], none), (16, [15], none), (17, [16], none), (18, [], none), (19, [18], none), (20, [19], none), (21, [17, 20], none)]
        (ch5V p q r b7 b8 k) (by kernel_rfl) (by kernel_rfl) (by kernel_rfl) (by kernel_rfl) (by kernel_rfl) (by decide) (fun _ _ _ _ h _ => h) ?_ ?_
      · refine ⟨?_, ?_, ?_, ?_, ?_, ?_, ?_, trivial⟩
        · intro f w3 hb _ K hK
          simp only [over, overL, Nat.reduceAdd]
          go_simp
          exact hK _ _ ⟨_, rfl, by simp only [over, overL, Nat.reduceAdd]; rfl, Below.refl _ _⟩
        · intro f w3 hb ⟨h15, _⟩ K hK
          have h15 : f 15 = _ := h15
          simp only [over, overL, Nat.reduceAdd, h15]
          go_simp
          exact hK _ _ ⟨_, rfl, by simp only [over, overL, Nat.reduceAdd, h15]; rfl, Below.refl _ _⟩
        · intro f w3 hb ⟨h16, _⟩ K hK
          have h16 : f 16 = _ := h16
          have c := cell_later hb ck
          simp only [over, overL, Nat.reduceAdd, h16]
          go_simp
          exact hK _ _ ⟨_, rfl, by simp only [over, overL, Nat.reduceAdd, h16]; rfl, Below.refl _ _⟩
        · intro f w3 hb _ K hK
          simp only [over, overL, Nat.reduceAdd]
          go_simp
          exact hK _ _ ⟨_, rfl, by simp only [over, overL, Nat.reduceAdd]; rfl, Below.refl _ _⟩
        · intro f w3 hb ⟨h18, _⟩ K hK
          have h18 : f 18 = _ := h18
          simp only [over, overL, Nat.reduceAdd, h18]
          go_simp
          exact hK _ _ ⟨_, rfl, by simp only [over, overL, Nat.reduceAdd, h18]; rfl, Below.refl _ _⟩
        · intro f w3 hb ⟨h19, _⟩ K hK
          have h19 : f 19 = _ := h19
          have c := cell_later hb dk
          simp only [over, overL, Nat.reduceAdd, h19]
          go_simp
          exact hK _ _ ⟨_, rfl, by simp only [over, overL, Nat.reduceAdd, h19]; rfl, Below.refl _ _⟩
        · intro f w3 hb ⟨h17, h20, _⟩ K hK
          have h17 : f 17 = _ := h17
          have h20 : f 20 = _ := h20
          simp only [over, overL, Nat.reduceAdd, h17, h20]
          go_simp
          exact hK _ _ ⟨_, HV.out, by simp only [over, overL, Nat.reduceAdd, h17, h20]; rfl, Below.refl _ _⟩
      intro f w3 hb3 h
      have h15 : f 15 = .int .i64 (k : Int) := h.1
      have h21 : f 21 = .int .i64 (r.at k) := h.2.2.2.2.2.2.1
      have hA3 := HA.out.later hb3
      have hB3 := HB.out.later hb3
      have hBel3 : Below w0.heap.size w0 w3 := HBel.out.trans (hb3.mono HBel.out.size)
      have c := cell_later hb3 ck
      have fr := hA3.free k hlt
      have hA4 : Arr b7 (fun j => if j < k + 1 then r.at j else p.at j) (w3.setCell ⟨b7, k, none⟩ (.int .i64 (r.at k))) := by
        have h1 := hA3.set hlt (r.at k)
        refine ⟨h1.lt, fun j hj => ?_, h1.free⟩
        rw [h1.cell j hj]
        by_cases e : j = k
        · subst e; rw [if_pos rfl, if_pos (by omega)]
        · rw [if_neg e]
          by_cases e2 : j < k
          · rw [if_pos e2, if_pos (by omega)]
          · rw [if_neg e2, if_neg (by omega)]
      have HR4 : Hid ((Arr b7 (fun j => if j < k + 1 then r.at j else p.at j) (w3.setCell ⟨b7, k, none⟩ (.int .i64 (r.at k)))) ∧ Arr b8 q.at (w3.setCell ⟨b7, k, none⟩ (.int .i64 (r.at k))) ∧ Below w0.heap.size w0 (w3.setCell ⟨b7, k, none⟩ (.int .i64 (r.at k)))) :=
        ⟨hA4, hB3.other (Ne.symm HNE.out) k _, hBel3.setCell HN.out _⟩
      clear hA3 hB3 hBel3 hA4 hb3 h ck dk fk HV
      simp only [over_eq, overL, h15, h21, Nat.reduceAdd, List.drop_succ_cons, List.drop_zero]
      go_wp2
      go_roundw
      case rel => exact ⟨k + 1, by omega, by go_num, HR4.out⟩
      case measure => simp [intOf]; omega
    · have hk3 : k = 3 := by omega
      subst hk3
      have c0 : wr.cell? ⟨b7, 0, none⟩ = some (.int .i64 r.x) := HA.out.cell 0 (by decide)
      have c1 : wr.cell? ⟨b7, 1, none⟩ = some (.int .i64 r.y) := HA.out.cell 1 (by decide)
      have c2 : wr.cell? ⟨b7, 2, none⟩ = some (.int .i64 r.z) := HA.out.cell 2 (by decide)
      have hR := HR.out.later HBel.out
      have r0 : wr.cell? ⟨w.heap.size + 1 + 1, 0, none⟩ = some (.int .i64 0) := hR.cell 0 (by decide)
      have r1 : wr.cell? ⟨w.heap.size + 1 + 1, 1, none⟩ = some (.int .i64 0) := hR.cell 1 (by decide)
      have r2 : wr.cell? ⟨w.heap.size + 1 + 1, 2, none⟩ = some (.int .i64 0) := hR.cell 2 (by decide)
      have f0 := hR.free 0 (by decide)
      have f1 := hR.free 1 (by decide)
      have f2 := hR.free 2 (by decide)
      have hB0 : Below w.heap.size w w0 := by
        rw [HW0.out]
        exact (((Below.refl _ _).alloc (Nat.le_refl _) _).alloc (by simp) _).alloc (by simp; omega) _
      have HBW : Hid (Below w.heap.size w wr) := hB0.trans (HBel.out.mono hB0.size)
      clear hR hB0
      go_wp2
      obtain ⟨x0, x1, x2⟩ := box3 r0 r1 r2 (.int .i64 r.x) (.int .i64 r.y) (.int .i64 r.z)
      refine bodyPost_ret (v := pv r) (by simp [results, Tryz.results63, go_sem, r0, r1, r2]) rfl ⟨rfl, ?_⟩
      exact ((HBW.out.setCell (by show w.heap.size ≤ w.heap.size + 1 + 1; omega) _).setCell (by show w.heap.size ≤ w.heap.size + 1 + 1; omega) _).setCell (by show w.heap.size ≤ w.heap.size + 1 + 1; omega) _

/-- How many numbers change from one point to another. -/
def turnsN (a b : Pt) : Int := one (b.x - a.x) + one (b.y - a.y) + one (b.z - a.z)
set_option maxHeartbeats 3200000 in
theorem turns_any (a b : Pt) (w : World) (ha : SmP a) (hb : SmP b) :
    Calls Tryz.prog 35 #[pv a, pv b] w fun e w' => e = .returned (.int .i64 (turnsN a b)) ∧ Below w.heap.size w w' := by
  have HC : Hid (∀ W, Calls Tryz.prog 63 #[pv a, pv b] W fun e w' => e = .returned (pv (chg a b)) ∧ Below W.heap.size W w') := fun W => change_any a b W ha hb
  have HT : Hid (turnsN a b = one (chg a b).x + one (chg a b).y + one (chg a b).z) := rfl
  clear ha hb
  generalize chg a b = c at *
  obtain ⟨x, y, z⟩ := c
  have hx := ix0 x y z
  have hy := ix1 x y z
  have hz := ix2 x y z
  have HB0 : Hid (Below w.heap.size w ((w.alloc (po a)).alloc (po b))) := ((Below.refl _ _).alloc (Nat.le_refl _) _).alloc (by simp) _
  go_enter Tryz.func35, Tryz.ntmps35
  go_wp2_with fail
  refine Calls.mono (HC.out _) ?_
  rintro e w1 ⟨rfl, hb1⟩
  have HB1 : Hid (Below w.heap.size w w1) := HB0.out.trans (hb1.mono HB0.out.size)
  clear hb1
  go_wp2_with fail
  by_cases hx0 : x = 0
  · have nex : (x != 0) = false := by simp [hx0]
    have Hx : Hid (one x = 0) := by show _ = _; rw [hx0]; rfl
    clear hx0
    by_cases hy0 : y = 0
    · have ney : (y != 0) = false := by simp [hy0]
      have Hy : Hid (one y = 0) := by show _ = _; rw [hy0]; rfl
      clear hy0
      by_cases hz0 : z = 0
      · have nez : (z != 0) = false := by simp [hz0]
        have Hz : Hid (one z = 0) := by show _ = _; rw [hz0]; rfl
        clear hz0
        refine wp_loop_rounds 4 ?_
        rw [rounds_succ]
        go_wp2
        rw [rounds_succ]
        go_wp2
        rw [rounds_succ]
        go_wp2
        rw [rounds_succ]
        go_wp2
        go_ret
        exact ⟨ret_int (by rw [HT.out, Hx.out, Hy.out, Hz.out]; rfl), HB1.out⟩
      · have nez : (z != 0) = true := by simp [hz0]
        have Hz : Hid (one z = 1) := one_of hz0
        clear hz0
        refine wp_loop_rounds 4 ?_
        rw [rounds_succ]
        go_wp2
        rw [rounds_succ]
        go_wp2
        rw [rounds_succ]
        go_wp2
        rw [rounds_succ]
        go_wp2
        go_ret
        exact ⟨ret_int (by rw [HT.out, Hx.out, Hy.out, Hz.out]; rfl), HB1.out⟩
    · have ney : (y != 0) = true := by simp [hy0]
      have Hy : Hid (one y = 1) := one_of hy0
      clear hy0
      by_cases hz0 : z = 0
      · have nez : (z != 0) = false := by simp [hz0]
        have Hz : Hid (one z = 0) := by show _ = _; rw [hz0]; rfl
        clear hz0
        refine wp_loop_rounds 4 ?_
        rw [rounds_succ]
        go_wp2
        rw [rounds_succ]
        go_wp2
        rw [rounds_succ]
        go_wp2
        rw [rounds_succ]
        go_wp2
        go_ret
        exact ⟨ret_int (by rw [HT.out, Hx.out, Hy.out, Hz.out]; rfl), HB1.out⟩
      · have nez : (z != 0) = true := by simp [hz0]
        have Hz : Hid (one z = 1) := one_of hz0
        clear hz0
        refine wp_loop_rounds 4 ?_
        rw [rounds_succ]
        go_wp2
        rw [rounds_succ]
        go_wp2
        rw [rounds_succ]
        go_wp2
        rw [rounds_succ]
        go_wp2
        go_ret
        exact ⟨ret_int (by rw [HT.out, Hx.out, Hy.out, Hz.out]; rfl), HB1.out⟩
  · have nex : (x != 0) = true := by simp [hx0]
    have Hx : Hid (one x = 1) := one_of hx0
    clear hx0
    by_cases hy0 : y = 0
    · have ney : (y != 0) = false := by simp [hy0]
      have Hy : Hid (one y = 0) := by show _ = _; rw [hy0]; rfl
      clear hy0
      by_cases hz0 : z = 0
      · have nez : (z != 0) = false := by simp [hz0]
        have Hz : Hid (one z = 0) := by show _ = _; rw [hz0]; rfl
        clear hz0
        refine wp_loop_rounds 4 ?_
        rw [rounds_succ]
        go_wp2
        rw [rounds_succ]
        go_wp2
        rw [rounds_succ]
        go_wp2
        rw [rounds_succ]
        go_wp2
        go_ret
        exact ⟨ret_int (by rw [HT.out, Hx.out, Hy.out, Hz.out]; rfl), HB1.out⟩
      · have nez : (z != 0) = true := by simp [hz0]
        have Hz : Hid (one z = 1) := one_of hz0
        clear hz0
        refine wp_loop_rounds 4 ?_
        rw [rounds_succ]
        go_wp2
        rw [rounds_succ]
        go_wp2
        rw [rounds_succ]
        go_wp2
        rw [rounds_succ]
        go_wp2
        go_ret
        exact ⟨ret_int (by rw [HT.out, Hx.out, Hy.out, Hz.out]; rfl), HB1.out⟩
    · have ney : (y != 0) = true := by simp [hy0]
      have Hy : Hid (one y = 1) := one_of hy0
      clear hy0
      by_cases hz0 : z = 0
      · have nez : (z != 0) = false := by simp [hz0]
        have Hz : Hid (one z = 0) := by show _ = _; rw [hz0]; rfl
        clear hz0
        refine wp_loop_rounds 4 ?_
        rw [rounds_succ]
        go_wp2
        rw [rounds_succ]
        go_wp2
        rw [rounds_succ]
        go_wp2
        rw [rounds_succ]
        go_wp2
        go_ret
        exact ⟨ret_int (by rw [HT.out, Hx.out, Hy.out, Hz.out]; rfl), HB1.out⟩
      · have nez : (z != 0) = true := by simp [hz0]
        have Hz : Hid (one z = 1) := one_of hz0
        clear hz0
        refine wp_loop_rounds 4 ?_
        rw [rounds_succ]
        go_wp2
        rw [rounds_succ]
        go_wp2
        rw [rounds_succ]
        go_wp2
        rw [rounds_succ]
        go_wp2
        go_ret
        exact ⟨ret_int (by rw [HT.out, Hx.out, Hy.out, Hz.out]; rfl), HB1.out⟩
end Go.Proofs.YtcajifelbldjnaaGreat.S

/- space.Move walked. -/
namespace Go.Proofs.YtcajifelbldjnaaGreat.S
open Go.RowKit
set_option maxHeartbeats 3200000 in
set_option maxRecDepth 100000 in
theorem move_bad (a : Bx) (p : Pt) (w : World) (hr : bad1 a ≠ 0) :
    Calls Tryz.prog 33 #[bv a, pv p] w fun e w' => e = .returned (.tuple #[bv (zB), .int .i64 (bad1 a)]) ∧ Below w.heap.size w w' := by
  have hne : (bad1 a != 0) = true := by simp [hr]
  clear hr
  have HB0 : Hid (Below w.heap.size w w) := Below.refl _ _
  go_enter Tryz.func33, Tryz.ntmps33
  go_wp2_with fail
  refine (refusal1r a _ rfl (((w.alloc (bo (a))).alloc (po (p))).alloc (bo (zB))) (w.heap.size + 1 + 1 + 1) (by simp)).mono ?_
  rintro e w1 ⟨rfl, hb1⟩
  have hal : Below w.heap.size w ((((w.alloc (bo (a))).alloc (po (p))).alloc (bo (zB))).alloc (bo (a))) := (below_grow _ (Nat.le_refl _) (below_grow _ (Nat.le_refl _) (below_grow _ (Nat.le_refl _) (below_grow _ (Nat.le_refl _) (Below.refl _ _) _) _) _) _)
  have hn : Below w.heap.size w w1 := hal.trans (hb1.mono hal.size)
  have HB1 : Hid (Below w.heap.size w w1) := HB0.out.trans (hn.mono HB0.out.size)
  have Ka1 : Hid (Bf (w.heap.size) (a) w1) := by
    have h := ((Bf.new w (a)).later (below_grow _ (Nat.le_refl _) (below_grow _ (Nat.le_refl _) (below_grow _ (Nat.le_refl _) (Below.refl _ _) _) _) _)).later hb1
    show Bf _ _ _
    simpa using h
  have Kp1 : Hid (Pf (w.heap.size + 1) (p) w1) := by
    have h := ((Pf.new (w.alloc (bo (a))) (p)).later (below_grow _ (Nat.le_refl _) (below_grow _ (Nat.le_refl _) (Below.refl _ _) _) _)).later hb1
    show Pf _ _ _
    simpa using h
  have Kr1 : Hid (Bf (w.heap.size + 1 + 1) (zB) w1) := by
    have h := ((Bf.new ((w.alloc (bo (a))).alloc (po (p))) (zB)).later (below_grow _ (Nat.le_refl _) (Below.refl _ _) _)).later hb1
    show Bf _ _ _
    simpa using h
  clear hal hn hb1
  obtain ⟨⟨rl, r0, r1, r2, r3, r4, r5⟩, rf0, rf1, rf2, rf3, rf4, rf5⟩ := Kr1.out
  simp only [Nat.zero_add] at r1 r2 r3 r4 r5
  go_wp2
  refine bodyPost_ret (v := .tuple #[bv (zB), .int .i64 (bad1 a)]) (by simp [results, Tryz.results33, go_sem, r0, r1, r2, r3, r4, r5]) rfl ⟨rfl, ?_⟩
  exact below_put6 (a := zB) HB1.out (by omega)
set_option maxHeartbeats 3200000 in
set_option maxRecDepth 100000 in
theorem move_far (a : Bx) (p : Pt) (w : World) (hr : bad1 a = 0) (hp : nearP p = false) :
    Calls Tryz.prog 33 #[bv a, pv p] w fun e w' => e = .returned (.tuple #[bv (zB), .int .i64 (2)]) ∧ Below w.heap.size w w' := by
  have HR : Hid (bad1 a = 0) := hr
  have HP : Hid (nearP p = false) := hp
  clear hr hp
  have HB0 : Hid (Below w.heap.size w w) := Below.refl _ _
  go_enter Tryz.func33, Tryz.ntmps33
  go_wp2_with fail
  refine (refusal1r a _ HR.out (((w.alloc (bo (a))).alloc (po (p))).alloc (bo (zB))) (w.heap.size + 1 + 1 + 1) (by simp)).mono ?_
  rintro e w1 ⟨rfl, hb1⟩
  have hal : Below w.heap.size w ((((w.alloc (bo (a))).alloc (po (p))).alloc (bo (zB))).alloc (bo (a))) := (below_grow _ (Nat.le_refl _) (below_grow _ (Nat.le_refl _) (below_grow _ (Nat.le_refl _) (below_grow _ (Nat.le_refl _) (Below.refl _ _) _) _) _) _)
  have hn : Below w.heap.size w w1 := hal.trans (hb1.mono hal.size)
  have HB1 : Hid (Below w.heap.size w w1) := HB0.out.trans (hn.mono HB0.out.size)
  have Ka1 : Hid (Bf (w.heap.size) (a) w1) := by
    have h := ((Bf.new w (a)).later (below_grow _ (Nat.le_refl _) (below_grow _ (Nat.le_refl _) (below_grow _ (Nat.le_refl _) (Below.refl _ _) _) _) _)).later hb1
    show Bf _ _ _
    simpa using h
  have Kp1 : Hid (Pf (w.heap.size + 1) (p) w1) := by
    have h := ((Pf.new (w.alloc (bo (a))) (p)).later (below_grow _ (Nat.le_refl _) (below_grow _ (Nat.le_refl _) (Below.refl _ _) _) _)).later hb1
    show Pf _ _ _
    simpa using h
  have Kr1 : Hid (Bf (w.heap.size + 1 + 1) (zB) w1) := by
    have h := ((Bf.new ((w.alloc (bo (a))).alloc (po (p))) (zB)).later (below_grow _ (Nat.le_refl _) (Below.refl _ _) _)).later hb1
    show Bf _ _ _
    simpa using h
  clear hal hn hb1
  obtain ⟨pl, p0, p1, p2⟩ := Kp1.out
  go_wp2_with fail
  refine (near1r p false HP.out w1 w1.heap.size rfl).mono ?_
  rintro e w2 ⟨rfl, hb2⟩
  clear pl p0 p1 p2
  have hal : Below w1.heap.size w1 (w1.alloc (po (p))) := (below_grow _ (Nat.le_refl _) (Below.refl _ _) _)
  have hn : Below w1.heap.size w1 w2 := hal.trans (hb2.mono hal.size)
  have HB2 : Hid (Below w.heap.size w w2) := HB1.out.trans (hn.mono HB1.out.size)
  have Ka2 : Hid (Bf (w.heap.size) (a) w2) := Ka1.out.later hn
  have Kp2 : Hid (Pf (w.heap.size + 1) (p) w2) := Kp1.out.later hn
  have Kr2 : Hid (Bf (w.heap.size + 1 + 1) (zB) w2) := Kr1.out.later hn
  clear hal hn hb2
  obtain ⟨⟨rl, r0, r1, r2, r3, r4, r5⟩, rf0, rf1, rf2, rf3, rf4, rf5⟩ := Kr2.out
  simp only [Nat.zero_add] at r1 r2 r3 r4 r5
  go_wp2
  refine bodyPost_ret (v := .tuple #[bv (zB), .int .i64 (2)]) (by simp [results, Tryz.results33, go_sem, r0, r1, r2, r3, r4, r5]) rfl ⟨rfl, ?_⟩
  exact below_put6 (a := zB) HB2.out (by omega)
set_option maxHeartbeats 3200000 in
set_option maxRecDepth 100000 in
theorem move_out (a : Bx) (p : Pt) (w : World) (hr : bad1 a = 0) (hp : nearP p = true) (hm : nearB (movB a p) = false) :
    Calls Tryz.prog 33 #[bv a, pv p] w fun e w' => e = .returned (.tuple #[bv (zB), .int .i64 (2)]) ∧ Below w.heap.size w w' := by
  have HR : Hid (bad1 a = 0) := hr
  have HP : Hid (nearP p = true) := hp
  have HM : Hid (nearB (movB a p) = false) := hm
  clear hr hp hm
  have HB0 : Hid (Below w.heap.size w w) := Below.refl _ _
  go_enter Tryz.func33, Tryz.ntmps33
  go_wp2_with fail
  refine (refusal1r a _ HR.out (((w.alloc (bo (a))).alloc (po (p))).alloc (bo (zB))) (w.heap.size + 1 + 1 + 1) (by simp)).mono ?_
  rintro e w1 ⟨rfl, hb1⟩
  have hal : Below w.heap.size w ((((w.alloc (bo (a))).alloc (po (p))).alloc (bo (zB))).alloc (bo (a))) := (below_grow _ (Nat.le_refl _) (below_grow _ (Nat.le_refl _) (below_grow _ (Nat.le_refl _) (below_grow _ (Nat.le_refl _) (Below.refl _ _) _) _) _) _)
  have hn : Below w.heap.size w w1 := hal.trans (hb1.mono hal.size)
  have HB1 : Hid (Below w.heap.size w w1) := HB0.out.trans (hn.mono HB0.out.size)
  have Ka1 : Hid (Bf (w.heap.size) (a) w1) := by
    have h := ((Bf.new w (a)).later (below_grow _ (Nat.le_refl _) (below_grow _ (Nat.le_refl _) (below_grow _ (Nat.le_refl _) (Below.refl _ _) _) _) _)).later hb1
    show Bf _ _ _
    simpa using h
  have Kp1 : Hid (Pf (w.heap.size + 1) (p) w1) := by
    have h := ((Pf.new (w.alloc (bo (a))) (p)).later (below_grow _ (Nat.le_refl _) (below_grow _ (Nat.le_refl _) (Below.refl _ _) _) _)).later hb1
    show Pf _ _ _
    simpa using h
  have Kr1 : Hid (Bf (w.heap.size + 1 + 1) (zB) w1) := by
    have h := ((Bf.new ((w.alloc (bo (a))).alloc (po (p))) (zB)).later (below_grow _ (Nat.le_refl _) (Below.refl _ _) _)).later hb1
    show Bf _ _ _
    simpa using h
  clear hal hn hb1
  obtain ⟨pl, p0, p1, p2⟩ := Kp1.out
  go_wp2_with fail
  refine (near1r p true HP.out w1 w1.heap.size rfl).mono ?_
  rintro e w2 ⟨rfl, hb2⟩
  clear pl p0 p1 p2
  have hal : Below w1.heap.size w1 (w1.alloc (po (p))) := (below_grow _ (Nat.le_refl _) (Below.refl _ _) _)
  have hn : Below w1.heap.size w1 w2 := hal.trans (hb2.mono hal.size)
  have HB2 : Hid (Below w.heap.size w w2) := HB1.out.trans (hn.mono HB1.out.size)
  have Ka2 : Hid (Bf (w.heap.size) (a) w2) := Ka1.out.later hn
  have Kp2 : Hid (Pf (w.heap.size + 1) (p) w2) := Kp1.out.later hn
  have Kr2 : Hid (Bf (w.heap.size + 1 + 1) (zB) w2) := Kr1.out.later hn
  clear hal hn hb2
  obtain ⟨⟨al, a0, a1, a2, a3, a4, a5⟩, af0, af1, af2, af3, af4, af5⟩ := Ka2.out
  simp only [Nat.zero_add] at a1 a2 a3 a4 a5
  obtain ⟨pl, p0, p1, p2⟩ := Kp2.out
  go_wp2_with fail
  refine (moved_any a p w2 (near_sm HR.out) (nearP_sm HP.out)).mono ?_
  rintro e w3 ⟨rfl, hb3⟩
  clear al a0 a1 a2 a3 a4 a5 af0 af1 af2 af3 af4 af5 pl p0 p1 p2
  have hal : Below w2.heap.size w2 w2 := (Below.refl _ _)
  have hn : Below w2.heap.size w2 w3 := hal.trans (hb3.mono hal.size)
  have HB3 : Hid (Below w.heap.size w w3) := HB2.out.trans (hn.mono HB2.out.size)
  have Ka3 : Hid (Bf (w.heap.size) (a) w3) := Ka2.out.later hn
  have Kp3 : Hid (Pf (w.heap.size + 1) (p) w3) := Kp2.out.later hn
  have Kr3 : Hid (Bf (w.heap.size + 1 + 1) (zB) w3) := Kr2.out.later hn
  clear hal hn hb3
  obtain ⟨c, hc⟩ : ∃ c, c = movB a p := ⟨_, rfl⟩
  have HC : Hid (c = movB a p) := hc
  rw [← hc]
  clear hc
  go_wp2_with fail
  refine (near2r c false (by rw [HC.out]; exact HM.out) (w3.alloc (bo (c))) (w3.heap.size + 1) (by simp)).mono ?_
  rintro e w4 ⟨rfl, hb4⟩
  have hal : Below w3.heap.size w3 ((w3.alloc (bo (c))).alloc (bp c)) := (below_grow _ (Nat.le_refl _) (below_grow _ (Nat.le_refl _) (Below.refl _ _) _) _)
  have hn : Below w3.heap.size w3 w4 := hal.trans (hb4.mono hal.size)
  have HB4 : Hid (Below w.heap.size w w4) := HB3.out.trans (hn.mono HB3.out.size)
  have Ka4 : Hid (Bf (w.heap.size) (a) w4) := Ka3.out.later hn
  have Kp4 : Hid (Pf (w.heap.size + 1) (p) w4) := Kp3.out.later hn
  have Kr4 : Hid (Bf (w.heap.size + 1 + 1) (zB) w4) := Kr3.out.later hn
  have Kc4 : Hid (Bf (w3.heap.size) (c) w4) := by
    have h := ((Bf.new w3 (c)).later (below_grow _ (Nat.le_refl _) (Below.refl _ _) _)).later hb4
    show Bf _ _ _
    simpa using h
  clear hal hn hb4
  obtain ⟨⟨rl, r0, r1, r2, r3, r4, r5⟩, rf0, rf1, rf2, rf3, rf4, rf5⟩ := Kr4.out
  simp only [Nat.zero_add] at r1 r2 r3 r4 r5
  go_wp2
  refine bodyPost_ret (v := .tuple #[bv (zB), .int .i64 (2)]) (by simp [results, Tryz.results33, go_sem, r0, r1, r2, r3, r4, r5]) rfl ⟨rfl, ?_⟩
  exact below_put6 (a := zB) HB4.out (by omega)
set_option maxHeartbeats 3200000 in
set_option maxRecDepth 100000 in
theorem move_ok (a : Bx) (p : Pt) (w : World) (hr : bad1 a = 0) (hp : nearP p = true) (hm : nearB (movB a p) = true) :
    Calls Tryz.prog 33 #[bv a, pv p] w fun e w' => e = .returned (.tuple #[bv (movB a p), .int .i64 (0)]) ∧ Below w.heap.size w w' := by
  have HR : Hid (bad1 a = 0) := hr
  have HP : Hid (nearP p = true) := hp
  have HM : Hid (nearB (movB a p) = true) := hm
  clear hr hp hm
  have HB0 : Hid (Below w.heap.size w w) := Below.refl _ _
  go_enter Tryz.func33, Tryz.ntmps33
  go_wp2_with fail
  refine (refusal1r a _ HR.out (((w.alloc (bo (a))).alloc (po (p))).alloc (bo (zB))) (w.heap.size + 1 + 1 + 1) (by simp)).mono ?_
  rintro e w1 ⟨rfl, hb1⟩
  have hal : Below w.heap.size w ((((w.alloc (bo (a))).alloc (po (p))).alloc (bo (zB))).alloc (bo (a))) := (below_grow _ (Nat.le_refl _) (below_grow _ (Nat.le_refl _) (below_grow _ (Nat.le_refl _) (below_grow _ (Nat.le_refl _) (Below.refl _ _) _) _) _) _)
  have hn : Below w.heap.size w w1 := hal.trans (hb1.mono hal.size)
  have HB1 : Hid (Below w.heap.size w w1) := HB0.out.trans (hn.mono HB0.out.size)
  have Ka1 : Hid (Bf (w.heap.size) (a) w1) := by
    have h := ((Bf.new w (a)).later (below_grow _ (Nat.le_refl _) (below_grow _ (Nat.le_refl _) (below_grow _ (Nat.le_refl _) (Below.refl _ _) _) _) _)).later hb1
    show Bf _ _ _
    simpa using h
  have Kp1 : Hid (Pf (w.heap.size + 1) (p) w1) := by
    have h := ((Pf.new (w.alloc (bo (a))) (p)).later (below_grow _ (Nat.le_refl _) (below_grow _ (Nat.le_refl _) (Below.refl _ _) _) _)).later hb1
    show Pf _ _ _
    simpa using h
  have Kr1 : Hid (Bf (w.heap.size + 1 + 1) (zB) w1) := by
    have h := ((Bf.new ((w.alloc (bo (a))).alloc (po (p))) (zB)).later (below_grow _ (Nat.le_refl _) (Below.refl _ _) _)).later hb1
    show Bf _ _ _
    simpa using h
  clear hal hn hb1
  obtain ⟨pl, p0, p1, p2⟩ := Kp1.out
  go_wp2_with fail
  refine (near1r p true HP.out w1 w1.heap.size rfl).mono ?_
  rintro e w2 ⟨rfl, hb2⟩
  clear pl p0 p1 p2
  have hal : Below w1.heap.size w1 (w1.alloc (po (p))) := (below_grow _ (Nat.le_refl _) (Below.refl _ _) _)
  have hn : Below w1.heap.size w1 w2 := hal.trans (hb2.mono hal.size)
  have HB2 : Hid (Below w.heap.size w w2) := HB1.out.trans (hn.mono HB1.out.size)
  have Ka2 : Hid (Bf (w.heap.size) (a) w2) := Ka1.out.later hn
  have Kp2 : Hid (Pf (w.heap.size + 1) (p) w2) := Kp1.out.later hn
  have Kr2 : Hid (Bf (w.heap.size + 1 + 1) (zB) w2) := Kr1.out.later hn
  clear hal hn hb2
  obtain ⟨⟨al, a0, a1, a2, a3, a4, a5⟩, af0, af1, af2, af3, af4, af5⟩ := Ka2.out
  simp only [Nat.zero_add] at a1 a2 a3 a4 a5
  obtain ⟨pl, p0, p1, p2⟩ := Kp2.out
  go_wp2_with fail
  refine (moved_any a p w2 (near_sm HR.out) (nearP_sm HP.out)).mono ?_
  rintro e w3 ⟨rfl, hb3⟩
  clear al a0 a1 a2 a3 a4 a5 af0 af1 af2 af3 af4 af5 pl p0 p1 p2
  have hal : Below w2.heap.size w2 w2 := (Below.refl _ _)
  have hn : Below w2.heap.size w2 w3 := hal.trans (hb3.mono hal.size)
  have HB3 : Hid (Below w.heap.size w w3) := HB2.out.trans (hn.mono HB2.out.size)
  have Ka3 : Hid (Bf (w.heap.size) (a) w3) := Ka2.out.later hn
  have Kp3 : Hid (Pf (w.heap.size + 1) (p) w3) := Kp2.out.later hn
  have Kr3 : Hid (Bf (w.heap.size + 1 + 1) (zB) w3) := Kr2.out.later hn
  clear hal hn hb3
  obtain ⟨c, hc⟩ : ∃ c, c = movB a p := ⟨_, rfl⟩
  have HC : Hid (c = movB a p) := hc
  rw [← hc]
  clear hc
  go_wp2_with fail
  refine (near2r c true (by rw [HC.out]; exact HM.out) (w3.alloc (bo (c))) (w3.heap.size + 1) (by simp)).mono ?_
  rintro e w4 ⟨rfl, hb4⟩
  have hal : Below w3.heap.size w3 ((w3.alloc (bo (c))).alloc (bp c)) := (below_grow _ (Nat.le_refl _) (below_grow _ (Nat.le_refl _) (Below.refl _ _) _) _)
  have hn : Below w3.heap.size w3 w4 := hal.trans (hb4.mono hal.size)
  have HB4 : Hid (Below w.heap.size w w4) := HB3.out.trans (hn.mono HB3.out.size)
  have Ka4 : Hid (Bf (w.heap.size) (a) w4) := Ka3.out.later hn
  have Kp4 : Hid (Pf (w.heap.size + 1) (p) w4) := Kp3.out.later hn
  have Kr4 : Hid (Bf (w.heap.size + 1 + 1) (zB) w4) := Kr3.out.later hn
  have Kc4 : Hid (Bf (w3.heap.size) (c) w4) := by
    have h := ((Bf.new w3 (c)).later (below_grow _ (Nat.le_refl _) (Below.refl _ _) _)).later hb4
    show Bf _ _ _
    simpa using h
  clear hal hn hb4
  obtain ⟨⟨rl, r0, r1, r2, r3, r4, r5⟩, rf0, rf1, rf2, rf3, rf4, rf5⟩ := Kr4.out
  simp only [Nat.zero_add] at r1 r2 r3 r4 r5
  obtain ⟨⟨cl, c0, c1, c2, c3, c4, c5⟩, cf0, cf1, cf2, cf3, cf4, cf5⟩ := Kc4.out
  simp only [Nat.zero_add] at c1 c2 c3 c4 c5
  go_wp2
  refine bodyPost_ret (v := .tuple #[bv (c), .int .i64 (0)]) (by simp [results, Tryz.results33, go_sem, r0, r1, r2, r3, r4, r5]) rfl ⟨by rw [HC.out], ?_⟩
  exact below_put6 (a := c) HB4.out (by omega)
theorem move_any (a : Bx) (p : Pt) (w : World) : Calls Tryz.prog 33 #[bv a, pv p] w fun e w' => e = .returned (.tuple #[bv (moveR a p).1, .int .i64 (moveR a p).2]) ∧ Below w.heap.size w w' := by
  unfold moveR
  by_cases hr : bad1 a = 0
  · rw [if_pos hr]
    cases hp : nearP p with
    | false => exact move_far a p w hr hp
    | true =>
      rw [if_pos rfl]
      cases hm : nearB (movB a p) with
      | false => exact move_out a p w hr hp hm
      | true => exact move_ok a p w hr hp hm
  · rw [if_neg hr]
    exact move_bad a p w hr

end Go.Proofs.YtcajifelbldjnaaGreat.S

/- space.Hull walked. -/
namespace Go.Proofs.YtcajifelbldjnaaGreat.S
open Go.RowKit
set_option maxHeartbeats 3200000 in
set_option maxRecDepth 100000 in
theorem fhull_any (a b : Bx) (w : World) : Calls Tryz.prog 96 #[bv a, bv b] w fun e w' => e = .returned (.tuple #[bv (hullR a b).1, .int .i64 (hullR a b).2]) ∧ Below w.heap.size w w' := by
  obtain ⟨w0, hw0⟩ : ∃ w0, w0 = (((w.alloc (bo a)).alloc (bo b)).alloc (bo zB)) := ⟨_, rfl⟩
  have HW0 : Hid (w0 = (((w.alloc (bo a)).alloc (bo b)).alloc (bo zB))) := hw0
  have HB0 : Hid (Below w.heap.size w w0) := by
    show Below _ _ _
    rw [hw0]
    exact (((Below.refl _ _).alloc (Nat.le_refl _) _).alloc (by simp) _).alloc (by simp; omega) _
  have HA : Hid (Bf w.heap.size a w0) := by
    show Bf _ _ _
    rw [hw0]
    exact (Bf.new w a).later (((Below.refl _ _).alloc (Nat.le_refl _) _).alloc (by simp) _)
  have HC : Hid (Bf (w.heap.size + 1) b w0) := by
    show Bf _ _ _
    rw [hw0]
    have h := (Bf.new (w.alloc (bo a)) b).later ((Below.refl _ _).alloc (Nat.le_refl _) (bo zB))
    simpa using h
  have HZ : Hid (Bf (w.heap.size + 1 + 1) zB w0) := by
    show Bf _ _ _
    rw [hw0]
    have h := Bf.new ((w.alloc (bo a)).alloc (bo b)) zB
    simpa using h
  have HS : Hid (w0.heap.size = w.heap.size + 1 + 1 + 1) := by show _ = _; rw [hw0]; simp
  clear hw0
  have hal : Below w0.heap.size w0 (w0.alloc (bo2 a b)) := (Below.refl _ _).alloc (Nat.le_refl _) _
  by_cases hr : badL [a, b] = 0
  · have HR : Hid (badL [a, b] = 0) := hr
    have HQ : Hid (hullR a b = (hullB a b, 0)) := if_pos hr
    clear hr
    go_enter Tryz.func96, Tryz.ntmps96
    go_wp2_with fail
    rw [← HW0.out]
    refine (refusal2 a b w0 (w.heap.size + 1 + 1 + 1) HS.out.symm).mono ?_
    rintro e w1 ⟨rfl, hb1⟩
    rw [HR.out]
    have hb : Below w0.heap.size w0 w1 := hal.trans (hb1.mono hal.size)
    have HB1 : Hid (Below w.heap.size w w1) := HB0.out.trans (hb.mono HB0.out.size)
    have hA := HA.out.later hb
    have hC := HC.out.later hb
    have HZ1 : Hid (Bf (w.heap.size + 1 + 1) zB w1) := HZ.out.later hb
    clear hb1 hb
    obtain ⟨⟨_, p0, p1, p2, p3, p4, p5⟩, pf0, pf1, pf2, pf3, pf4, pf5⟩ := hA
    simp only [Nat.zero_add] at p1 p2 p3 p4 p5
    obtain ⟨⟨_, q0, q1, q2, q3, q4, q5⟩, qf0, qf1, qf2, qf3, qf4, qf5⟩ := hC
    simp only [Nat.zero_add] at q1 q2 q3 q4 q5
    go_wp2_with fail
    refine (hull_any a b w1).mono ?_
    rintro e w2 ⟨rfl, hb2⟩
    have HB2 : Hid (Below w.heap.size w w2) := HB1.out.trans (hb2.mono HB1.out.size)
    have hZ := HZ1.out.later hb2
    clear hb2
    obtain ⟨⟨_, r0, r1, r2, r3, r4, r5⟩, rf0, rf1, rf2, rf3, rf4, rf5⟩ := hZ
    simp only [Nat.zero_add] at r1 r2 r3 r4 r5
    go_wp2
    refine bodyPost_ret (v := .tuple #[bv (hullB a b), .int .i64 0]) (by simp [results, Tryz.results96, go_sem, r0, r1, r2, r3, r4, r5]) rfl ⟨by rw [HQ.out], ?_⟩
    exact below_put6 (a := (hullB a b)) HB2.out (by omega)
  · have hne : (badL [a, b] != 0) = true := by simp [hr]
    have HQ : Hid (hullR a b = (zB, badL [a, b])) := if_neg hr
    clear hr
    go_enter Tryz.func96, Tryz.ntmps96
    go_wp2_with fail
    rw [← HW0.out]
    refine (refusal2 a b w0 (w.heap.size + 1 + 1 + 1) HS.out.symm).mono ?_
    rintro e w1 ⟨rfl, hb1⟩
    have hb : Below w0.heap.size w0 w1 := hal.trans (hb1.mono hal.size)
    have HB1 : Hid (Below w.heap.size w w1) := HB0.out.trans (hb.mono HB0.out.size)
    have hZ := HZ.out.later hb
    clear hb1 hb
    obtain ⟨⟨_, r0, r1, r2, r3, r4, r5⟩, rf0, rf1, rf2, rf3, rf4, rf5⟩ := hZ
    simp only [Nat.zero_add] at r1 r2 r3 r4 r5
    go_wp2
    refine bodyPost_ret (v := .tuple #[bv zB, .int .i64 (badL [a, b])]) (by simp [results, Tryz.results96, go_sem, r0, r1, r2, r3, r4, r5]) rfl ⟨by rw [HQ.out], ?_⟩
    exact below_put6 (a := zB) HB1.out (by omega)

end Go.Proofs.YtcajifelbldjnaaGreat.S

/- Boxes of the call itself. -/
namespace Go.Proofs.YtcajifelbldjnaaGreat.S
open Go.RowKit
theorem Tryz.info35 : (Tryz.prog.info? 35).map (fun i => (i.zero, i.size, i.bytes)) = some (some (.agg #[.int .i64 0, .int .i64 0, .int .i64 0, .int .i64 0, .int .i64 0, .int .i64 0]), 6, 48) := by kernel_rfl
/-- Boxes as cells. -/
def cellsB1 (b : Bx) : List Value := [.int .i64 b.lx, .int .i64 b.ly, .int .i64 b.lz, .int .i64 b.hx, .int .i64 b.hy, .int .i64 b.hz]
def cellsB (l : List Bx) : List Value := l.flatMap cellsB1
theorem cellsB_length (l : List Bx) : (cellsB l).length = l.length * 6 := by
  induction l with
  | nil => rfl
  | cons p ps ih => simp only [cellsB, cellsB1, List.flatMap_cons, List.length_append, List.length_cons, List.length_nil] at ih ⊢; omega
theorem cellsB_append (a b : List Bx) : cellsB (a ++ b) = cellsB a ++ cellsB b := by simp [cellsB]
theorem cellsB_at {l : List Bx} {k i : Nat} (h : k < l.length) (hi : i < 6) : (cellsB l)[k * 6 + i]? = (cellsB1 (l[k]'h))[i]? := by
  have e : l = l.take k ++ l[k]'h :: l.drop (k + 1) := by rw [← List.drop_eq_getElem_cons h, List.take_append_drop]
  have e2 : cellsB l = cellsB (l.take k) ++ (cellsB1 (l[k]'h) ++ cellsB (l.drop (k + 1))) := by
    conv => lhs; rw [e]
    rw [cellsB_append]; rfl
  have hl : (cellsB (l.take k)).length = k * 6 := by rw [cellsB_length, List.length_take, Nat.min_eq_left (by omega)]
  rw [e2, List.getElem?_append_right (by omega), hl, List.getElem?_append_left (by simp [cellsB1]; omega)]
  congr 1
  omega
theorem cellsB_one {l : List Bx} : ∀ u ∈ cellsB l, u.oneCell' = true := by
  intro u hu
  obtain ⟨b, _, hb⟩ := List.mem_flatMap.1 hu
  simp only [cellsB1, List.mem_cons, List.mem_nil_iff, or_false] at hb
  rcases hb with rfl | rfl | rfl | rfl | rfl | rfl <;> rfl
theorem Bxs.cells {w : World} {ad : Addr} {l : List Bx} (h : Bxs w (some ad) l) : ∀ j u, (cellsB l)[j]? = some u → w.cell? (ad.add j) = some u := by
  intro j u hj
  have hlt : j < l.length * 6 := by
    have := (List.getElem?_eq_some_iff.1 hj).1
    rw [cellsB_length] at this
    exact this
  rcases h with rfl | ⟨b, off, e, hc⟩
  · simp at hlt
  · injection e with e
    subst e
    have hk : j / 6 < l.length := by omega
    have hat := cellsB_at (i := j % 6) hk (by omega)
    rw [show j / 6 * 6 + j % 6 = j by omega, hj] at hat
    obtain ⟨_, c0, c1, c2, c3, c4, c5⟩ := hc (j / 6) hk
    rw [Addr.add_lit]
    generalize l[j / 6]'hk = x at *
    rcases (show j % 6 = 0 ∨ j % 6 = 1 ∨ j % 6 = 2 ∨ j % 6 = 3 ∨ j % 6 = 4 ∨ j % 6 = 5 by omega) with e | e | e | e | e | e
    all_goals
      rw [e] at hat
      simp only [cellsB1, List.getElem?_cons_zero, List.getElem?_cons_succ] at hat
      injection hat with hat
      subst hat
    · rw [show off + j = off + j / 6 * 6 by omega]; exact c0
    · rw [show off + j = off + j / 6 * 6 + 1 by omega]; exact c1
    · rw [show off + j = off + j / 6 * 6 + 2 by omega]; exact c2
    · rw [show off + j = off + j / 6 * 6 + 3 by omega]; exact c3
    · rw [show off + j = off + j / 6 * 6 + 4 by omega]; exact c4
    · rw [show off + j = off + j / 6 * 6 + 5 by omega]; exact c5
/-- The call's own boxes. -/
def OwnB (w : World) (base : Nat) (v : Value) (l : List Bx) : Prop := w.ownsRow base 35 6 v l.length (cellsB l)
/-- A slice with just these boxes. -/
def IsCopy (l : List Bx) (v : Value) (w : World) : Prop := ∃ ao cap, v = .slice ao l.length cap ∧ Bxs w ao l ∧ l.length ≤ cap
theorem OwnB.shape {w : World} {base : Nat} {v : Value} {l : List Bx} (h : OwnB w base v l) : IsCopy l v w := by
  have h' := h
  rcases h.2 with ⟨h1, h2⟩ | ⟨g, cap', cur, h1, h2, h3, h4⟩
  · exact ⟨none, 0, by rw [h1, h2], .inl (List.eq_nil_of_length_eq_zero h2), by omega⟩
  · subst h1
    refine ⟨_, _, rfl, .inr ⟨g, 0, rfl, fun k hk => ?_⟩, by omega⟩
    have lt : g < w.heap.size := (Array.getElem?_eq_some_iff.1 h3).1
    have e : ∀ i, i < 6 → w.cell? ⟨g, k * 6 + i, none⟩ = (cellsB1 (l[k]'hk))[i]? := fun i hi => (World.ownsRow.cellAt h' (k * 6 + i) (by omega)).trans (cellsB_at hk hi)
    simp only [Nat.zero_add]
    exact ⟨lt, e 0 (by decide), e 1 (by decide), e 2 (by decide), e 3 (by decide), e 4 (by decide), e 5 (by decide)⟩

end Go.Proofs.YtcajifelbldjnaaGreat.S

/- slices.IndexFunc, ContainsFunc at points; tooFar, sweep, met, firstWrong walked. -/
namespace Go.Proofs.YtcajifelbldjnaaGreat.S
open Go.RowKit
/-- The number of the first box that is so; -1: none is. -/
def idxP (f : Pt → Bool) (l : List Pt) : Int := match l.findIdx? f with
  | some k => (k : Int)
  | none => -1

theorem take_succ_allP {l : List Pt} {k : Nat} {p : Pt → Prop} (h : k < l.length) (ha : ∀ b ∈ l.take k, p b) (hb : p (l[k]'h)) : ∀ b ∈ l.take (k + 1), p b := by
  rw [List.take_succ_eq_append_getElem h]
  intro f hf
  rcases List.mem_append.1 hf with hf | hf
  · exact ha f hf
  · simp at hf; subst hf; exact hb

theorem idx_hitP {f : Pt → Bool} {l : List Pt} {k : Nat} (h : k < l.length) (ha : ∀ b ∈ l.take k, f b = false) (hb : f (l[k]'h) = true) : idxP f l = k := by
  unfold idxP
  rw [show l.findIdx? f = some k from ?_]
  rw [List.findIdx?_eq_some_iff_getElem]
  refine ⟨h, hb, fun j hj => ?_⟩
  have := ha (l[j]'(by omega)) (by rw [List.mem_take_iff_getElem]; exact ⟨j, by omega, rfl⟩)
  simp [this]
theorem idx_missP {f : Pt → Bool} {l : List Pt} (ha : ∀ b ∈ l, f b = false) : idxP f l = -1 := by
  unfold idxP
  rw [show l.findIdx? f = none from ?_]
  rw [List.findIdx?_eq_none_iff]
  exact ha
theorem idx_casesP (f : Pt → Bool) (l : List Pt) : (idxP f l = -1 ∧ ∀ b ∈ l, f b = false) ∨ ∃ k, ∃ h : k < l.length, idxP f l = (k : Int) ∧ f (l[k]'h) = true ∧ ∀ j (hj : j < k), f (l[j]'(by omega)) = false := by
  unfold idxP
  cases e : l.findIdx? f with
  | none => exact .inl ⟨rfl, List.findIdx?_eq_none_iff.1 e⟩
  | some k =>
    obtain ⟨h, hb, ha⟩ := List.findIdx?_eq_some_iff_getElem.1 e
    exact .inr ⟨k, h, rfl, hb, fun j hj => by simpa using ha j hj⟩
theorem idx_anyP (f : Pt → Bool) (l : List Pt) : decide (0 ≤ idxP f l) = l.any f := by
  rcases idx_casesP f l with ⟨h, ha⟩ | ⟨k, hk, h, hb, _⟩
  · rw [h, show l.any f = false by rw [List.any_eq_false]; intro b hb; simp [ha b hb]]; rfl
  · rw [h, show l.any f = true by rw [List.any_eq_true]; exact ⟨_, List.getElem_mem hk, hb⟩]; simp

/-- What is asked of a test over boxes, from a world on. -/
def TestsP (g : Nat) (caps : Array Value) (f : Pt → Bool) (w : World) : Prop :=
  ∀ (a : Pt) (W : World), Below w.heap.size w W → Calls Tryz.prog g (#[pv a] ++ caps) W fun e w' => e = .returned (.bool (f a)) ∧ Below W.heap.size W w'

set_option maxHeartbeats 3200000 in
theorem indexFuncP_any (g : Nat) (caps : Array Value) (f : Pt → Bool) (ao : Option Addr) (cap : Nat) (l : List Pt) (w : World) (eg : ∀ args w, (callFunc g args).run Tryz.prog w = .ok (.enter g args) w)
    (hT : TestsP g caps f w) (hL : Pns w ao l) (hl : l.length ≤ 9223372036854775807) :
    Calls Tryz.prog 31 #[.slice ao l.length cap, .func (.func g) #[] caps] w fun e w' => e = .returned (.int .i64 (idxP f l)) ∧ Below w.heap.size w w' := by
  have HT : Hid (TestsP g caps f w) := hT
  have HL : Hid (Pns w ao l) := hL
  clear hT hL
  go_enter Tryz.func31, Tryz.ntmps31
  go_wp2
  go_loopw [5, 8] (fun _ i wr => ∃ k : Nat, k ≤ l.length ∧ i = .int .i64 k ∧ (∀ b ∈ l.take k, f b = false) ∧ Below w.heap.size w wr) (fun _ i _ => l.length - (intOf i).toNat)
  case atStart => exact ⟨0, Nat.zero_le _, rfl, (fun f hf => by simp at hf), Below.refl _ _⟩
  case round =>
    obtain ⟨k, hk, rfl, hok, hb⟩ := hrel
    have HB : Hid (Below w.heap.size w wr) := hb
    have HO : Hid (∀ b ∈ l.take k, f b = false) := hok
    clear hb hok
    by_cases hlt : k < l.length
    · obtain ⟨b, off, rfl, hbx⟩ := (HL.out.next HB.out).at hlt
      have HHit : Hid (f (l[k]'hlt) = true → idxP f l = k) := idx_hitP hlt HO.out
      have HMiss : Hid (f (l[k]'hlt) = false → ∀ b ∈ l.take (k + 1), f b = false) := take_succ_allP hlt HO.out
      generalize l[k]'hlt = a at *
      obtain ⟨_, c0, c1, c2⟩ := hbx
      have hcall := HT.out a wr HB.out
      cases hq : f a with
      | true =>
        rw [hq] at hcall
        go_wp2_with (go_at_fn g; refine hcall.mono ?_; rintro e w' ⟨rfl, hb'⟩)
        go_ret
        exact ⟨ret_int (HHit.out hq).symm, HB.out.trans (hb'.mono HB.out.size)⟩
      | false =>
        rw [hq] at hcall
        go_wp2_with (go_at_fn g; refine hcall.mono ?_; rintro e w' ⟨rfl, hb'⟩)
        go_roundw
        case rel => exact ⟨k + 1, by omega, by go_num, HMiss.out hq, HB.out.trans (hb'.mono HB.out.size)⟩
        case measure => simp [intOf]; omega
    · go_wp2
      go_ret
      exact ⟨ret_int (idx_missP fun b hb => HO.out b (by rw [List.take_of_length_le (by omega)]; exact hb)).symm, HB.out⟩

set_option maxHeartbeats 1600000 in
theorem containsFuncP_any (g : Nat) (caps : Array Value) (f : Pt → Bool) (ao : Option Addr) (cap : Nat) (l : List Pt) (w : World) (eg : ∀ args w, (callFunc g args).run Tryz.prog w = .ok (.enter g args) w)
    (hT : TestsP g caps f w) (hL : Pns w ao l) (hl : l.length ≤ 9223372036854775807) :
    Calls Tryz.prog 11 #[.slice ao l.length cap, .func (.func g) #[] caps] w fun e w' => e = .returned (.bool (l.any f)) ∧ Below w.heap.size w w' := by
  have hcall := indexFuncP_any g caps f ao cap l w eg hT hL hl
  have HA : Hid (decide (0 ≤ idxP f l) = l.any f) := idx_anyP f l
  clear hT hL
  generalize idxP f l = i at *
  go_enter Tryz.func11, Tryz.ntmps11
  go_wp2_with (go_at_call 31; refine hcall.mono ?_; rintro e w' ⟨rfl, hb'⟩)
  go_ret
  exact ⟨ret_bool HA.out, hb'⟩


/-- Would a box be too far at a point? -/
def farB (a : Bx) (p : Pt) : Bool := (moveR a p).2 != 0
theorem tooFar_any (a : Bx) (w : World) :
    Calls Tryz.prog 12 #[bv a] w fun e w' => e = .returned (.func (.func 32) #[] #[ptr w.heap.size]) ∧ w' = w.alloc (bo a) := by
  go_enter Tryz.func12, Tryz.ntmps12
  go_wp2
  go_ret
  exact ⟨rfl, rfl⟩
theorem enFar : ∀ args w, (callFunc 32 args).run Tryz.prog w = .ok (.enter 32 args) w := enters_of Tryz.func32 (by kernel_rfl) rfl
set_option maxHeartbeats 1600000 in
theorem far_test (a : Bx) (p : Pt) (B : Nat) (w : World) (hB : BxAt w B 0 a) :
    Calls Tryz.prog 32 #[pv p, ptr B] w fun e w' => e = .returned (.bool (farB a p)) ∧ Below w.heap.size w w' := by
  obtain ⟨hlt, c0, c1, c2, c3, c4, c5⟩ := hB
  simp only [Nat.zero_add] at c1 c2 c3 c4 c5
  have hne : B ≠ w.heap.size := by omega
  have HM : Hid (∀ W, Calls Tryz.prog 33 #[bv a, pv p] W fun e w' => e = .returned (.tuple #[bv (moveR a p).1, .int .i64 (moveR a p).2]) ∧ Below W.heap.size W w') := fun W => move_any a p W
  have HF : Hid (farB a p = ((moveR a p).2 != 0)) := rfl
  generalize moveR a p = r at *
  obtain ⟨m, e⟩ := r
  go_enter Tryz.func32, Tryz.ntmps32
  go_wp2_with fail
  refine Calls.mono (HM.out _) ?_
  rintro e1 w1 ⟨rfl, hb1⟩
  have HB1 : Hid (Below w.heap.size w w1) := ((Below.refl _ _).alloc (Nat.le_refl _) _).trans (hb1.mono (by simp))
  clear hb1
  go_wp2
  go_ret
  exact ⟨ret_bool HF.out.symm, HB1.out.alloc HB1.out.size _⟩
theorem bo_at (w : World) (a : Bx) : BxAt (w.alloc (bo a)) w.heap.size 0 a := ⟨by simp, by go_simp, by go_simp, by go_simp, by go_simp, by go_simp, by go_simp⟩
theorem far_any (ao : Option Addr) (cap : Nat) (l : List Pt) (a : Bx) (B : Nat) (w : World) (hB : BxAt w B 0 a) (hL : Pns w ao l) (hl : l.length ≤ 9223372036854775807) :
    Calls Tryz.prog 11 #[.slice ao l.length cap, .func (.func 32) #[] #[ptr B]] w fun e w' => e = .returned (.bool (l.any (farB a))) ∧ Below w.heap.size w w' :=
  containsFuncP_any _ _ (farB a) ao cap l w enFar (fun p W hW => far_test a p B W (hB.next hW)) hL hl
abbrev bcl (b : Bx) : List Value := [.int .i64 b.lx, .int .i64 b.ly, .int .i64 b.lz, .int .i64 b.hx, .int .i64 b.hy, .int .i64 b.hz]
theorem below_six {n b : Nat} {w w' : World} {v0 v1 v2 v3 v4 v5 : Value} (h : Below n w w') (hn : n ≤ b) : Below n w ((((((w'.setCell ⟨b, 0, none⟩ v0).setCell ⟨b, 1, none⟩ v1).setCell ⟨b, 2, none⟩ v2).setCell ⟨b, 3, none⟩ v3).setCell ⟨b, 4, none⟩ v4).setCell ⟨b, 5, none⟩ v5) :=
  (((((h.setCell hn _).setCell hn _).setCell hn _).setCell hn _).setCell hn _).setCell hn _
/-- The sweep of the tool from a point to another. -/
def sweepT (a : Bx) (p q : Pt) : Bx × Int := if (moveR a p).2 = 0 then (if (moveR a q).2 = 0 then hullR (moveR a p).1 (moveR a q).1 else (zB, (moveR a q).2)) else (zB, (moveR a p).2)
abbrev zo : Obj := .cells #[.int .i64 0, .int .i64 0, .int .i64 0, .int .i64 0, .int .i64 0, .int .i64 0] 35
set_option maxHeartbeats 3200000 in
theorem sweep_any (a : Bx) (p q : Pt) (w : World) :
    Calls Tryz.prog 64 #[bv a, pv p, pv q] w fun e w' => e = .returned (.tuple #[bv (sweepT a p q).1, .int .i64 (sweepT a p q).2]) ∧ Below w.heap.size w w' := by
  have HM1 : Hid (∀ W, Calls Tryz.prog 33 #[bv a, pv p] W fun e w' => e = .returned (.tuple #[bv (moveR a p).1, .int .i64 (moveR a p).2]) ∧ Below W.heap.size W w') := fun W => move_any a p W
  have HM2 : Hid (∀ W, Calls Tryz.prog 33 #[bv a, pv q] W fun e w' => e = .returned (.tuple #[bv (moveR a q).1, .int .i64 (moveR a q).2]) ∧ Below W.heap.size W w') := fun W => move_any a q W
  have HF : Hid (sweepT a p q = if (moveR a p).2 = 0 then (if (moveR a q).2 = 0 then hullR (moveR a p).1 (moveR a q).1 else (zB, (moveR a q).2)) else (zB, (moveR a p).2)) := rfl
  generalize moveR a p = r1 at *
  generalize moveR a q = r2 at *
  obtain ⟨m1, e1⟩ := r1
  obtain ⟨m2, e2⟩ := r2
  simp only at HF HM1 HM2
  obtain ⟨w0, hw0⟩ : ∃ w0, w0 = (((w.alloc (bo a)).alloc (po p)).alloc (po q)).alloc zo := ⟨_, rfl⟩
  have hs0 : w0.heap.size = w.heap.size + 4 := by rw [hw0]; simp
  have B0 : Below w.heap.size w w0 := by rw [hw0]; exact ((((Below.refl _ _).alloc (Nat.le_refl _) _).alloc (by simp) _).alloc (by simp; omega) _).alloc (by simp; omega) _
  have KA : Hid (Bk w.heap.size [.int .i64 a.lx, .int .i64 a.ly, .int .i64 a.lz, .int .i64 a.hx, .int .i64 a.hy, .int .i64 a.hz] w0) := by
    show Bk _ _ _
    rw [hw0]
    exact (((Bk.new w [.int .i64 a.lx, .int .i64 a.ly, .int .i64 a.lz, .int .i64 a.hx, .int .i64 a.hy, .int .i64 a.hz] 35 w.heap.size rfl).later ((Below.refl _ _).alloc (Nat.le_refl _) _)).later ((Below.refl _ _).alloc (Nat.le_refl _) _)).later ((Below.refl _ _).alloc (Nat.le_refl _) _)
  have KP : Hid (Bk (w.heap.size + 1) (pcl p) w0) := by
    show Bk _ _ _
    rw [hw0]
    exact ((Bk.new (w.alloc (bo a)) (pcl p) 29 _ (by simp)).later ((Below.refl _ _).alloc (Nat.le_refl _) _)).later ((Below.refl _ _).alloc (Nat.le_refl _) _)
  have KQ : Hid (Bk (w.heap.size + 1 + 1) (pcl q) w0) := by
    show Bk _ _ _
    rw [hw0]
    exact (Bk.new ((w.alloc (bo a)).alloc (po p)) (pcl q) 29 _ (by simp)).later ((Below.refl _ _).alloc (Nat.le_refl _) _)
  have KZ : Hid (Bk (w.heap.size + 1 + 1 + 1) [.int .i64 0, .int .i64 0, .int .i64 0, .int .i64 0, .int .i64 0, .int .i64 0] w0) := by
    show Bk _ _ _
    rw [hw0]
    exact Bk.new (((w.alloc (bo a)).alloc (po p)).alloc (po q)) [.int .i64 0, .int .i64 0, .int .i64 0, .int .i64 0, .int .i64 0, .int .i64 0] 35 _ (by simp)
  have HB0 : Hid (Below w.heap.size w w0) := B0
  have HSZ : Hid (w0.heap.size = w.heap.size + 4) := hs0
  have HW0 : Hid (w0 = (((w.alloc (bo a)).alloc (po p)).alloc (po q)).alloc zo) := hw0
  clear B0 hs0 hw0
  go_enter Tryz.func64, Tryz.ntmps64
  go_wp2_with fail
  rw [← HW0.out]
  refine Calls.mono (HM1.out _) ?_
  rintro e w1 ⟨rfl, hb1⟩
  have b2 : Below w1.heap.size w1 (w1.alloc (bo m1)) := (Below.refl _ _).alloc (Nat.le_refl _) _
  have HM : Hid (Bk w1.heap.size (bcl m1) (w1.alloc (bo m1))) := Bk.new w1 (bcl m1) 35 w1.heap.size rfl
  have HBW : Hid (Below w0.heap.size w0 (w1.alloc (bo m1))) := hb1.trans (b2.mono hb1.size)
  have HB1 : Hid (Below w0.heap.size w0 w1) := hb1
  have hsz := HSZ.out
  have hs1 := hb1.size
  clear hb1 b2 HM1
  by_cases he1 : e1 = 0
  · subst he1
    obtain ⟨w2, hw2⟩ : ∃ w2, w2 = w1.alloc (bo m1) := ⟨_, rfl⟩
    rw [← hw2] at HM HBW
    have HW2 : Hid (w2 = w1.alloc (bo m1)) := hw2
    have hs2 : w2.heap.size = w1.heap.size + 1 := by rw [hw2]; simp
    clear hw2
    have ka0 := (KA.out.later HB1.out).c 0 rfl
    have ka1 := (KA.out.later HB1.out).c 1 rfl
    have ka2 := (KA.out.later HB1.out).c 2 rfl
    have ka3 := (KA.out.later HB1.out).c 3 rfl
    have ka4 := (KA.out.later HB1.out).c 4 rfl
    have ka5 := (KA.out.later HB1.out).c 5 rfl
    have kq0 := (KQ.out.later HB1.out).c 0 rfl
    have kq1 := (KQ.out.later HB1.out).c 1 rfl
    have kq2 := (KQ.out.later HB1.out).c 2 rfl
    have hn0 : w.heap.size < w1.heap.size := by omega
    have hn2 : w.heap.size + 1 + 1 < w1.heap.size := by omega
    go_wp2_with fail
    rw [← HW2.out]
    refine Calls.mono (HM2.out _) ?_
    rintro e w3 ⟨rfl, hb3⟩
    have b4 : Below w3.heap.size w3 (w3.alloc (bo m2)) := (Below.refl _ _).alloc (Nat.le_refl _) _
    have HM4 : Hid (Bk w3.heap.size (bcl m2) (w3.alloc (bo m2))) := Bk.new w3 (bcl m2) 35 w3.heap.size rfl
    have HMA : Hid (Bk w1.heap.size (bcl m1) (w3.alloc (bo m2))) := (HM.out.later hb3).later b4
    have HBX : Hid (Below w0.heap.size w0 (w3.alloc (bo m2))) := (HBW.out.trans (hb3.mono HBW.out.size)).trans (b4.mono (Nat.le_trans HBW.out.size hb3.size))
    have HB3 : Hid (Below w0.heap.size w0 w3) := HBW.out.trans (hb3.mono HBW.out.size)
    have HMB : Hid (Bk w1.heap.size (bcl m1) w3) := HM.out.later hb3
    have hs3 := hb3.size
    have hn5 : w1.heap.size < w3.heap.size := by omega
    clear hb3 b4 HM2 ka0 ka1 ka2 ka3 ka4 ka5 kq0 kq1 kq2
    by_cases he2 : e2 = 0
    · subst he2
      obtain ⟨w4, hw4⟩ : ∃ w4, w4 = w3.alloc (bo m2) := ⟨_, rfl⟩
      rw [← hw4] at HM4 HMA HBX
      have HW4 : Hid (w4 = w3.alloc (bo m2)) := hw4
      clear hw4
      have ma0 := (HMB.out).c 0 rfl
      have ma1 := (HMB.out).c 1 rfl
      have ma2 := (HMB.out).c 2 rfl
      have ma3 := (HMB.out).c 3 rfl
      have ma4 := (HMB.out).c 4 rfl
      have ma5 := (HMB.out).c 5 rfl
      have HH : Hid (∀ W, Calls Tryz.prog 96 #[bv m1, bv m2] W fun e w' => e = .returned (.tuple #[bv (hullR m1 m2).1, .int .i64 (hullR m1 m2).2]) ∧ Below W.heap.size W w') := fun W => fhull_any m1 m2 W
      have HF2 : Hid (sweepT a p q = hullR m1 m2) := by show _ = _; have := HF.out; simpa using this
      generalize hullR m1 m2 = r at *
      obtain ⟨h, e⟩ := r
      simp only at HH
      go_wp2_with fail
      rw [← HW4.out]
      refine Calls.mono (HH.out _) ?_
      rintro e5 w5 ⟨rfl, hb5⟩
      have HBY : Hid (Below w0.heap.size w0 w5) := HBX.out.trans (hb5.mono HBX.out.size)
      clear hb5 ma0 ma1 ma2 ma3 ma4 ma5
      have z0 := (KZ.out.later HBY.out).c 0 rfl
      have zf0 := (KZ.out.later HBY.out).f 0 rfl
      have z1 := (KZ.out.later HBY.out).c 1 rfl
      have zf1 := (KZ.out.later HBY.out).f 1 rfl
      have z2 := (KZ.out.later HBY.out).c 2 rfl
      have zf2 := (KZ.out.later HBY.out).f 2 rfl
      have z3 := (KZ.out.later HBY.out).c 3 rfl
      have zf3 := (KZ.out.later HBY.out).f 3 rfl
      have z4 := (KZ.out.later HBY.out).c 4 rfl
      have zf4 := (KZ.out.later HBY.out).f 4 rfl
      have z5 := (KZ.out.later HBY.out).c 5 rfl
      have zf5 := (KZ.out.later HBY.out).f 5 rfl
      go_wp2
      refine bodyPost_ret (v := .tuple #[bv h, .int .i64 e]) (by simp [results, Tryz.results64, go_sem, z0, z1, z2, z3, z4, z5]) rfl ⟨by rw [HF2.out], ?_⟩
      exact below_six (HB0.out.trans (HBY.out.mono HB0.out.size)) (by omega)
    · have HF2 : Hid (sweepT a p q = (zB, e2)) := by show _ = _; have := HF.out; simpa [he2] using this
      have hne : (e2 != 0) = true := by simp [he2]
      clear he2
      have HJ := (((((((KZ.out.later HB3.out).put 0 (.int .i64 0)).put 1 (.int .i64 0)).put 2 (.int .i64 0)).put 3 (.int .i64 0)).put 4 (.int .i64 0)).put 5 (.int .i64 0)).later ((Below.refl _ _).alloc (Nat.le_refl _) (bo m2))
      have jz0 := HJ.c 0 rfl
      have jz1 := HJ.c 1 rfl
      have jz2 := HJ.c 2 rfl
      have jz3 := HJ.c 3 rfl
      have jz4 := HJ.c 4 rfl
      have jz5 := HJ.c 5 rfl
      have HBF : Hid (Below w.heap.size w ((((((((w3).setCell ⟨w.heap.size + 1 + 1 + 1, 0, none⟩ (.int .i64 0)).setCell ⟨w.heap.size + 1 + 1 + 1, 1, none⟩ (.int .i64 0)).setCell ⟨w.heap.size + 1 + 1 + 1, 2, none⟩ (.int .i64 0)).setCell ⟨w.heap.size + 1 + 1 + 1, 3, none⟩ (.int .i64 0)).setCell ⟨w.heap.size + 1 + 1 + 1, 4, none⟩ (.int .i64 0)).setCell ⟨w.heap.size + 1 + 1 + 1, 5, none⟩ (.int .i64 0)).alloc (bo m2))) := (below_six (HB0.out.trans (HB3.out.mono HB0.out.size)) (by omega)).alloc (Nat.le_trans HB0.out.size (by simpa using HB3.out.size)) _
      clear HJ
      have z0 := (KZ.out.later HB3.out).c 0 rfl
      have zf0 := (KZ.out.later HB3.out).f 0 rfl
      have z1 := (KZ.out.later HB3.out).c 1 rfl
      have zf1 := (KZ.out.later HB3.out).f 1 rfl
      have z2 := (KZ.out.later HB3.out).c 2 rfl
      have zf2 := (KZ.out.later HB3.out).f 2 rfl
      have z3 := (KZ.out.later HB3.out).c 3 rfl
      have zf3 := (KZ.out.later HB3.out).f 3 rfl
      have z4 := (KZ.out.later HB3.out).c 4 rfl
      have zf4 := (KZ.out.later HB3.out).f 4 rfl
      have z5 := (KZ.out.later HB3.out).c 5 rfl
      have zf5 := (KZ.out.later HB3.out).f 5 rfl
      have hnz : w.heap.size + 1 + 1 + 1 < w3.heap.size := by omega
      go_wp2
      refine bodyPost_ret (v := .tuple #[bv zB, .int .i64 e2]) (by simp [results, Tryz.results64, go_sem, jz0, jz1, jz2, jz3, jz4, jz5]) rfl ⟨by rw [HF2.out], HBF.out⟩
  · have HF2 : Hid (sweepT a p q = (zB, e1)) := by show _ = _; have := HF.out; simpa [he1] using this
    have hne : (e1 != 0) = true := by simp [he1]
    clear he1
    have HJ := (((((((KZ.out.later HB1.out).put 0 (.int .i64 0)).put 1 (.int .i64 0)).put 2 (.int .i64 0)).put 3 (.int .i64 0)).put 4 (.int .i64 0)).put 5 (.int .i64 0)).later ((Below.refl _ _).alloc (Nat.le_refl _) (bo m1))
    have jz0 := HJ.c 0 rfl
    have jz1 := HJ.c 1 rfl
    have jz2 := HJ.c 2 rfl
    have jz3 := HJ.c 3 rfl
    have jz4 := HJ.c 4 rfl
    have jz5 := HJ.c 5 rfl
    have HBF : Hid (Below w.heap.size w ((((((((w1).setCell ⟨w.heap.size + 1 + 1 + 1, 0, none⟩ (.int .i64 0)).setCell ⟨w.heap.size + 1 + 1 + 1, 1, none⟩ (.int .i64 0)).setCell ⟨w.heap.size + 1 + 1 + 1, 2, none⟩ (.int .i64 0)).setCell ⟨w.heap.size + 1 + 1 + 1, 3, none⟩ (.int .i64 0)).setCell ⟨w.heap.size + 1 + 1 + 1, 4, none⟩ (.int .i64 0)).setCell ⟨w.heap.size + 1 + 1 + 1, 5, none⟩ (.int .i64 0)).alloc (bo m1))) := (below_six (HB0.out.trans (HB1.out.mono HB0.out.size)) (by omega)).alloc (Nat.le_trans HB0.out.size (by simpa using HB1.out.size)) _
    clear HJ
    have z0 := (KZ.out.later HB1.out).c 0 rfl
    have zf0 := (KZ.out.later HB1.out).f 0 rfl
    have z1 := (KZ.out.later HB1.out).c 1 rfl
    have zf1 := (KZ.out.later HB1.out).f 1 rfl
    have z2 := (KZ.out.later HB1.out).c 2 rfl
    have zf2 := (KZ.out.later HB1.out).f 2 rfl
    have z3 := (KZ.out.later HB1.out).c 3 rfl
    have zf3 := (KZ.out.later HB1.out).f 3 rfl
    have z4 := (KZ.out.later HB1.out).c 4 rfl
    have zf4 := (KZ.out.later HB1.out).f 4 rfl
    have z5 := (KZ.out.later HB1.out).c 5 rfl
    have zf5 := (KZ.out.later HB1.out).f 5 rfl
    have hnz : w.heap.size + 1 + 1 + 1 < w1.heap.size := by omega
    go_wp2
    refine bodyPost_ret (v := .tuple #[bv zB, .int .i64 e1]) (by simp [results, Tryz.results64, go_sem, jz0, jz1, jz2, jz3, jz4, jz5]) rfl ⟨by rw [HF2.out], HBF.out⟩
end Go.Proofs.YtcajifelbldjnaaGreat.S

/- met, firstWrong walked. -/
namespace Go.Proofs.YtcajifelbldjnaaGreat.S
open Go.RowKit
/-- Does the tool meet a box as it goes from a point to another? -/
def metB (l : List Bx) (a : Bx) (p q : Pt) : Bool := (firstR l (sweepT a p q).1).1 != -1
set_option maxHeartbeats 3200000 in
theorem met_any (ao : Option Addr) (cap : Nat) (l : List Bx) (a : Bx) (p q : Pt) (w : World) (hL : Bxs w ao l) (hl : l.length ≤ 9223372036854775807) :
    Calls Tryz.prog 38 #[.slice ao l.length cap, bv a, pv p, pv q] w fun e w' => e = .returned (.bool (metB l a p q)) ∧ Below w.heap.size w w' := by
  have HL : Hid (Bxs w ao l) := hL
  have HS : Hid (∀ W, Calls Tryz.prog 64 #[bv a, pv p, pv q] W fun e w' => e = .returned (.tuple #[bv (sweepT a p q).1, .int .i64 (sweepT a p q).2]) ∧ Below W.heap.size W w') := fun W => sweep_any a p q W
  have HF : Hid (∀ W, Bxs W ao l → Calls Tryz.prog 65 #[.slice ao l.length cap, bv (sweepT a p q).1] W fun e w' => e = .returned (.tuple #[.int .i64 (firstR l (sweepT a p q).1).1, .int .i64 (firstR l (sweepT a p q).1).2]) ∧ Below W.heap.size W w') := fun W h => first_any ao cap l (sweepT a p q).1 W h hl
  have HM : Hid (metB l a p q = ((firstR l (sweepT a p q).1).1 != -1)) := rfl
  clear hL
  generalize firstR l (sweepT a p q).1 = fr at *
  obtain ⟨i, e2⟩ := fr
  generalize sweepT a p q = st at *
  obtain ⟨m, e1⟩ := st
  simp only at HS HF HM
  have B0 : Hid (Below w.heap.size w (((w.alloc (bo a)).alloc (po p)).alloc (po q))) := (((Below.refl _ _).alloc (Nat.le_refl _) _).alloc (by simp) _).alloc (by simp; omega) _
  go_enter Tryz.func38, Tryz.ntmps38
  go_wp2_with fail
  refine Calls.mono (HS.out _) ?_
  rintro e w1 ⟨rfl, hb1⟩
  have HB1 : Hid (Below w.heap.size w w1) := B0.out.trans (hb1.mono B0.out.size)
  have HB2 : Hid (Below w.heap.size w (w1.alloc (bo m))) := HB1.out.alloc HB1.out.size _
  clear hb1 HS
  go_wp2_with fail
  refine Calls.mono (HF.out _ (HL.out.next HB2.out)) ?_
  rintro e w2 ⟨rfl, hb2⟩
  have HB3 : Hid (Below w.heap.size w w2) := HB2.out.trans (hb2.mono HB2.out.size)
  clear hb2 HF
  go_wp2
  go_ret
  exact ⟨ret_bool HM.out.symm, HB3.out⟩
/-- The number of the first point at which the tool meets a box, or on the way to which. -/
def wrongG (l : List Bx) (a : Bx) : Pt → List Pt → Nat → Int
  | _, [], _ => -1
  | h, p :: r, k => if metB l a h p = true then k else wrongG l a p r (k + 1)
def wrongL (l : List Bx) (a : Bx) (way : List Pt) : Int := match way with
  | [] => -1
  | p :: r => wrongG l a p (p :: r) 0
set_option maxHeartbeats 6400000 in
set_option maxRecDepth 100000 in
theorem firstWrong_any (ao ao' : Option Addr) (cap cap' : Nat) (l : List Bx) (a : Bx) (way : List Pt) (w : World) (hL : Bxs w ao l) (hl : l.length ≤ 9223372036854775807) (hA : Pns w ao' way) (hw : way.length ≤ 9223372036854775807) (hne : way ≠ []) :
    Calls Tryz.prog 15 #[.slice ao l.length cap, bv a, .slice ao' way.length cap'] w fun e w' => e = .returned (.int .i64 (wrongL l a way)) ∧ Below w.heap.size w w' := by
  have HL : Hid (Bxs w ao l) := hL
  have HA : Hid (Pns w ao' way) := hA
  have HM : Hid (∀ p q W, Bxs W ao l → Calls Tryz.prog 38 #[.slice ao l.length cap, bv a, pv p, pv q] W fun e w' => e = .returned (.bool (metB l a p q)) ∧ Below W.heap.size W w') := fun p q W h => met_any ao cap l a p q W h hl
  clear hL
  have hpos : 0 < way.length := List.length_pos_iff.2 hne
  obtain ⟨b, off, rfl, _, c0, c1, c2⟩ := hA.at hpos
  have HW0 : Hid (wrongL l a way = wrongG l a (way[0]'hpos) way 0) := by
    show _ = _
    cases way with
    | nil => exact absurd rfl hne
    | cons p r => rfl
  clear hA hne
  generalize way[0]'hpos = p0 at *
  simp only [Nat.zero_mul, Nat.add_zero] at c0 c1 c2
  have hpi : (0 : Int) < (way.length : Int) := by omega
  have KA : Hid (Bk w.heap.size (bcl a) ((w.alloc (bo a)).alloc (po p0))) := (Bk.new w (bcl a) 35 w.heap.size rfl).later ((Below.refl _ _).alloc (Nat.le_refl _) _)
  have KP : Hid (Bk (w.heap.size + 1) (pcl p0) ((w.alloc (bo a)).alloc (po p0))) := Bk.new (w.alloc (bo a)) (pcl p0) 29 _ (by simp)
  have HB0 : Hid (Below w.heap.size w ((w.alloc (bo a)).alloc (po p0))) := ((Below.refl _ _).alloc (Nat.le_refl _) _).alloc (by simp) _
  go_enter Tryz.func15, Tryz.ntmps15
  go_wp2
  clear c0 c1 c2
  go_loopw [15] (fun i wr => ∃ (k : Nat) (h : Pt), k ≤ way.length ∧ i = .int .i64 k ∧ wrongL l a way = wrongG l a h (way.drop k) k ∧ Bk (w.heap.size + 1) (pcl h) wr ∧ Bk w.heap.size (bcl a) wr ∧ Below w.heap.size w wr) (fun i _ => way.length - (intOf i).toNat)
  case atStart => exact ⟨0, p0, Nat.zero_le _, rfl, HW0.out, KP.out, KA.out, HB0.out⟩
  case round =>
    obtain ⟨k, h, hk, rfl, hwr, hkh, hka, hb⟩ := hrel
    have HKH : Hid (Bk (w.heap.size + 1) (pcl h) wr) := hkh
    have HKA : Hid (Bk w.heap.size (bcl a) wr) := hka
    have HB : Hid (Below w.heap.size w wr) := hb
    have HWR : Hid (wrongL l a way = wrongG l a h (way.drop k) k) := hwr
    clear hkh hka hb hwr
    by_cases hlt : k < way.length
    · obtain ⟨b', off', e, _, c0, c1, c2⟩ := (HA.out.next HB.out).at hlt
      injection e with e
      injection e with e e3
      subst e e3
      have HWS : Hid (wrongL l a way = wrongG l a h (way[k]'hlt :: way.drop (k + 1)) k) := by show _ = _; rw [HWR.out, List.drop_eq_getElem_cons hlt]
      generalize way[k]'hlt = q at *
      have hki : (k : Int) < (way.length : Int) := by omega
      have hlh : w.heap.size + 1 < wr.heap.size := HKH.out.1
      have hla : w.heap.size < wr.heap.size := HKA.out.1
      have KQ : Hid (Bk wr.heap.size (pcl q) (wr.alloc (po q))) := Bk.new wr (pcl q) 29 wr.heap.size rfl
      have HB1 : Hid (Below w.heap.size w (wr.alloc (po q))) := HB.out.alloc HB.out.size _
      have h0 := (HKH.out).c 0 rfl
      have h1 := (HKH.out).c 1 rfl
      have h2 := (HKH.out).c 2 rfl
      have a0 := (HKA.out).c 0 rfl
      have a1 := (HKA.out).c 1 rfl
      have a2 := (HKA.out).c 2 rfl
      have a3 := (HKA.out).c 3 rfl
      have a4 := (HKA.out).c 4 rfl
      have a5 := (HKA.out).c 5 rfl
      go_wp2_with fail
      refine Calls.mono (HM.out h q _ (HL.out.next HB1.out)) ?_
      rintro e w2 ⟨rfl, hb2⟩
      have HB2 : Hid (Below w.heap.size w w2) := HB1.out.trans (hb2.mono HB1.out.size)
      have HKH2 : Hid (Bk (w.heap.size + 1) (pcl h) w2) := (HKH.out.later ((Below.refl _ _).alloc (Nat.le_refl _) _)).later hb2
      have HKA2 : Hid (Bk w.heap.size (bcl a) w2) := (HKA.out.later ((Below.refl _ _).alloc (Nat.le_refl _) _)).later hb2
      have HKQ2 : Hid (Bk wr.heap.size (pcl q) w2) := KQ.out.later hb2
      clear hb2 h0 h1 h2 a0 a1 a2 a3 a4 a5 c0 c1 c2
      cases hm : metB l a h q with
      | true =>
        have HR : Hid (wrongL l a way = k) := by show _ = _; rw [HWS.out, wrongG, if_pos hm]
        clear hm
        go_wp2
        go_ret
        exact ⟨ret_int HR.out.symm, HB2.out⟩
      | false =>
        have HR : Hid (wrongL l a way = wrongG l a q (way.drop (k + 1)) (k + 1)) := by show _ = _; rw [HWS.out, wrongG, if_neg (by rw [hm]; decide)]
        clear hm
        have q0 := (HKQ2.out).c 0 rfl
        have q1 := (HKQ2.out).c 1 rfl
        have q2 := (HKQ2.out).c 2 rfl
        have h0 := (HKH2.out).c 0 rfl
        have hf0 := (HKH2.out).f 0 rfl
        have h1 := (HKH2.out).c 1 rfl
        have hf1 := (HKH2.out).f 1 rfl
        have h2 := (HKH2.out).c 2 rfl
        have hf2 := (HKH2.out).f 2 rfl
        have HF : Hid (Bk (w.heap.size + 1) (pcl q) (((w2.setCell ⟨w.heap.size + 1, 0, none⟩ (.int .i64 q.x)).setCell ⟨w.heap.size + 1, 1, none⟩ (.int .i64 q.y)).setCell ⟨w.heap.size + 1, 2, none⟩ (.int .i64 q.z))) := ((HKH2.out.put 0 _).put 1 _).put 2 _
        have HG : Hid (Bk w.heap.size (bcl a) (((w2.setCell ⟨w.heap.size + 1, 0, none⟩ (.int .i64 q.x)).setCell ⟨w.heap.size + 1, 1, none⟩ (.int .i64 q.y)).setCell ⟨w.heap.size + 1, 2, none⟩ (.int .i64 q.z))) := ((HKA2.out.other (by omega) 0 _).other (by omega) 1 _).other (by omega) 2 _
        have HBF : Hid (Below w.heap.size w (((w2.setCell ⟨w.heap.size + 1, 0, none⟩ (.int .i64 q.x)).setCell ⟨w.heap.size + 1, 1, none⟩ (.int .i64 q.y)).setCell ⟨w.heap.size + 1, 2, none⟩ (.int .i64 q.z))) := ((HB2.out.setCell (by simp) _).setCell (by simp) _).setCell (by simp) _
        go_wp2
        go_roundw
        case rel => exact ⟨k + 1, q, by omega, by go_num, HR.out, HF.out, HG.out, HBF.out⟩
        case measure => simp [intOf]; omega
    · have HR : Hid (wrongL l a way = -1) := by show _ = _; rw [HWR.out, List.drop_of_length_le (by omega)]; rfl
      go_wp2
      go_ret
      exact ⟨ret_int HR.out.symm, HB.out⟩
end Go.Proofs.YtcajifelbldjnaaGreat.S

/- The steps of a way: path.steps and what it yields. -/
namespace Go.Proofs.YtcajifelbldjnaaGreat.S
open Go.RowKit
attribute [local go_sem] Oper.semAt_some
/-- Each point with the next one. -/
def stepsL (l : List Pt) : List (Pt × Pt) := l.zip l.tail
theorem stepsL_length (l : List Pt) : (stepsL l).length = l.length - 1 := by simp [stepsL]
theorem stepsL_at {l : List Pt} {k : Nat} (h : k + 1 < l.length) : (stepsL l)[k]? = some (l[k]'(by omega), l[k + 1]'h) := by
  unfold stepsL
  rw [List.getElem?_zip_eq_some]
  exact ⟨List.getElem?_eq_getElem (by omega), by rw [List.getElem?_tail]; exact List.getElem?_eq_getElem h⟩
theorem stepsL_take {l : List Pt} {k : Nat} (h : k + 1 < l.length) : (stepsL l).take (k + 1) = (stepsL l).take k ++ [(l[k]'(by omega), l[k + 1]'h)] := by
  have hk : k < (stepsL l).length := by rw [stepsL_length]; omega
  rw [List.take_succ_eq_append_getElem hk]
  have := stepsL_at h
  rw [List.getElem?_eq_getElem hk] at this
  injection this with this
  rw [this]
theorem stepsL_all {l : List Pt} {k : Nat} (h : l.length ≤ k + 1) : (stepsL l).take k = stepsL l := List.take_of_length_le (by rw [stepsL_length]; omega)
theorem steps_any (ao : Option Addr) (n cap : Nat) (w : World) :
    Calls Tryz.prog 34 #[.slice ao n cap] w fun e w' => e = .returned (.func (.func 62) #[] #[ptr w.heap.size]) ∧ w' = w.alloc (.cells #[.slice ao n cap] 36) := by
  go_enter Tryz.func34, Tryz.ntmps34
  go_wp2
  go_ret
  exact ⟨rfl, rfl⟩
theorem enSt : ∀ args w, (callFunc 62 args).run Tryz.prog w = .ok (.enter 62 args) w := enters_of Tryz.func62 (by kernel_rfl) rfl
set_option linter.unusedVariables false in
def st3V (l : Nat) (p q : Pt) (b off n cap j k : Nat) (d : Nat) (v : Value) (_ : World) : Prop :=
  match d with
  | 10 => v = .func (.yield l) #[] #[]
  | 11 => v = .slice (some ⟨b, off, none⟩) n cap
  | 12 => v = .int .i64 (j : Int)
  | 13 => v = .int .i64 (k : Int)
  | 14 => v = .pointer (some ⟨b, off + k * 3, none⟩)
  | 15 => v = pv p
  | 16 => v = .slice (some ⟨b, off, none⟩) n cap
  | 17 => v = .int .i64 (j : Int)
  | 18 => v = .pointer (some ⟨b, off + j * 3, none⟩)
  | 19 => v = pv q
  | _ => True
set_option linter.unusedVariables false in
theorem st3V_mono (l : Nat) (p q : Pt) (b off n cap j k : Nat) (d : Nat) (v : Value) (w w' : World) (h : st3V l p q b off n cap j k d v w) (_ : Below w.heap.size w w') : st3V l p q b off n cap j k d v w' := h
set_option maxHeartbeats 6400000 in
set_option maxRecDepth 100000 in
/-- The iterator: each step once, in order, until the body leaves. -/
theorem steps_lv (N0 : Nat) (ao : Option Addr) (cap : Nat) (way : List Pt) (C l : Nat) (M : Nat → Prop) (W : World) (hC : W.cell? ⟨C, 0, none⟩ = some (.slice ao way.length cap)) (hCl : C < W.heap.size) (hA : Pns W ao way) (hl : way.length ≤ 9223372036854775807)
    (hCM : ¬ (M C ∨ C = l)) (hAM : way ≠ [] → ∀ ad, ao = some ad → ¬ (M ad.block ∨ ad.block = l)) :
    SeqLv Tryz.prog N0 62 #[ptr C] (fun s : Pt × Pt => #[pv s.1, pv s.2]) (· <+: stepsL way) (· = stepsL way) M l W := by
  intro J Jx hJ hJx hY h0
  have HA : Hid (Pns W ao way) := hA
  have HCW : Hid (W.cell? ⟨C, 0, none⟩ = some (.slice ao way.length cap)) := hC
  have HCM : Hid (¬ (M C ∨ C = l)) := hCM
  have HAM : Hid (way ≠ [] → ∀ ad, ao = some ad → ¬ (M ad.block ∨ ad.block = l)) := hAM
  have HY : Hid (∀ pre x W1, J pre W1 → pre ++ [x] <+: stepsL way → W.heap.size ≤ W1.heap.size → YieldAt Fence.wide (N0 - 1) Tryz.prog l #[pv x.1, pv x.2] W1 fun e W' => (e = .returned (.bool true) ∧ J (pre ++ [x]) W' ∧ Kpt (fun k => M k ∨ k = l) W1 W') ∨ (e = .returned (.bool false) ∧ Jx (pre ++ [x]) W')) := hY
  have HJ : Hid (∀ s A B, J s A → Below A.heap.size A B → J s B) := hJ
  have HJX : Hid (∀ s A B, Jx s A → Below A.heap.size A B → Jx s B) := hJx
  have H0 : Hid (J [] W) := h0
  have HCL : Hid (C < W.heap.size) := hCl
  clear hA hC hCM hAM hY hJ hJx h0 hCl
  refine callsIn_of_wp Tryz.func62 rfl trivial ?_ rfl
  simp only [Tryz.ntmps62, List.size_toArray, List.length_cons, List.length_nil, Nat.reduceAdd, Nat.reduceSub, Array.replicate_succ, Array.replicate_zero, List.push_toArray, List.append_toArray, List.nil_append, List.cons_append]
  gi_wp2
  gi_loopw [3] (fun i wr => ∃ k : Nat, (k = 0 ∨ k + 1 ≤ way.length) ∧ i = .int .i64 ((k + 1 : Nat) : Int) ∧ J ((stepsL way).take k) wr ∧ Kpt (fun x => M x ∨ x = l) W wr) (fun i _ => way.length + 1 - (intOf i).toNat)
  case atStart => exact ⟨0, .inl rfl, rfl, by simpa using H0.out, Kpt.refl _ _⟩
  case round =>
    obtain ⟨k, hk, rfl, hj, hkp⟩ := hrel
    have HJ1 : Hid (J ((stepsL way).take k) wr) := hj
    have HKP : Hid (Kpt (fun x => M x ∨ x = l) W wr) := hkp
    clear hj hkp
    obtain ⟨j, hjk⟩ : ∃ j, j = k + 1 := ⟨_, rfl⟩
    rw [← hjk]
    have HC : Hid (wr.cell? ⟨C, 0, none⟩ = some (.slice ao way.length cap)) := (World.cell?_of_block (a := ⟨C, 0, none⟩) (HKP.out.block C HCL.out HCM.out)).trans HCW.out
    have HJK : Hid (j = k + 1) := hjk
    have c0 := HC.out
    by_cases hlt : j < way.length
    · have hkl : k < way.length := by omega
      have HTK : Hid ((stepsL way).take (k + 1) = (stepsL way).take k ++ [(way[k]'hkl, way[j]'hlt)]) := by
        have := stepsL_take (l := way) (k := k) (by omega)
        subst hjk
        exact this
      have HPX : Hid ((stepsL way).take k ++ [(way[k]'hkl, way[j]'hlt)] <+: stepsL way) := by show _ <+: _; rw [← HTK.out]; exact List.take_prefix _ _
      have hAw := HA.out.kpt HKP.out HAM.out
      obtain ⟨b, off, e1, hp⟩ := hAw.at hkl
      obtain ⟨b', off', e2, hq⟩ := hAw.at hlt
      rw [e1] at e2
      injection e2 with e2
      injection e2 with e2 e3
      subst e2 e3
      subst e1
      clear hAw hjk hk
      generalize way[k]'hkl = p at *
      generalize way[j]'hlt = q at *
      have HP0 : Hid (wr.cell? ⟨b, off + k * 3, none⟩ = some (.int .i64 p.x)) := hp.2.1
      have HP1 : Hid (wr.cell? ⟨b, off + k * 3 + 1, none⟩ = some (.int .i64 p.y)) := hp.2.2.1
      have HP2 : Hid (wr.cell? ⟨b, off + k * 3 + 2, none⟩ = some (.int .i64 p.z)) := hp.2.2.2
      have HQ0 : Hid (wr.cell? ⟨b, off + j * 3, none⟩ = some (.int .i64 q.x)) := hq.2.1
      have HQ1 : Hid (wr.cell? ⟨b, off + j * 3 + 1, none⟩ = some (.int .i64 q.y)) := hq.2.2.1
      have HQ2 : Hid (wr.cell? ⟨b, off + j * 3 + 2, none⟩ = some (.int .i64 q.z)) := hq.2.2.2
      have HV : Hid (Value.int .i64 (IntKind.i64.wrap ((j : Int) - 1)) = .int .i64 (k : Int)) := by
        show _ = _
        have := HJK.out
        rw [wrap_is (by omega) (by omega)]
        congr 1
        omega
      have hji : (j : Int) < (way.length : Int) := by omega
      have hki : (k : Int) < (way.length : Int) := by omega
      clear hp hq
      generalize way.length = n at *
      gi_wp2_with fail
      refine region_seqI 10 [false, false, false, false, false, false, false, false, false, false, true, true, true, true, true, true, true, true, true, true, false, false]
        [(10, [], none), (11, [], none), (12, [], none), (13, [12], none), (14, [11, 13], none), (15, [14], none), (16, [], none), (17, [], none), (18, [16, 17], none), (19, [18], none)]
        (st3V l p q b off n cap j k) (by kernel_rfl) (by kernel_rfl) (by kernel_rfl) (by kernel_rfl) (by kernel_rfl) (by decide) (st3V_mono l p q b off n cap j k) ?_ ?_
      · refine ⟨?_, ?_, ?_, ?_, ?_, ?_, ?_, ?_, ?_, ?_, trivial⟩
        · intro f w1 hb _ K hK
          simp only [over, overL, Nat.reduceAdd]
          go_simp
          exact hK _ _ ⟨_, rfl, by simp only [over, overL, Nat.reduceAdd]; rfl, Below.refl _ _⟩
        · intro f w1 hb _ K hK
          have q0 := cell_later hb HC.out
          simp only [over, overL, Nat.reduceAdd]
          go_simp
          exact hK _ _ ⟨_, rfl, by simp only [over, overL, Nat.reduceAdd]; rfl, Below.refl _ _⟩
        · intro f w1 hb _ K hK
          simp only [over, overL, Nat.reduceAdd]
          go_simp
          exact hK _ _ ⟨_, rfl, by simp only [over, overL, Nat.reduceAdd]; rfl, Below.refl _ _⟩
        · intro f w1 hb ⟨h12, _⟩ K hK
          replace h12 : f 12 = _ := h12
          simp only [over, overL, Nat.reduceAdd, h12]
          go_simp
          exact hK _ _ ⟨_, HV.out, by simp only [over, overL, Nat.reduceAdd, h12]; rfl, Below.refl _ _⟩
        · intro f w1 hb ⟨h11, h13, _⟩ K hK
          replace h11 : f 11 = _ := h11
          replace h13 : f 13 = _ := h13
          simp only [over, overL, Nat.reduceAdd, h11, h13]
          go_simp
          exact hK _ _ ⟨_, rfl, by simp only [over, overL, Nat.reduceAdd, h11, h13]; rfl, Below.refl _ _⟩
        · intro f w1 hb ⟨h14, _⟩ K hK
          replace h14 : f 14 = _ := h14
          have q0 := cell_later hb HP0.out
          have q1 := cell_later hb HP1.out
          have q2 := cell_later hb HP2.out
          simp only [over, overL, Nat.reduceAdd, h14]
          go_simp
          exact hK _ _ ⟨_, rfl, by simp only [over, overL, Nat.reduceAdd, h14]; rfl, Below.refl _ _⟩
        · intro f w1 hb _ K hK
          have q0 := cell_later hb HC.out
          simp only [over, overL, Nat.reduceAdd]
          go_simp
          exact hK _ _ ⟨_, rfl, by simp only [over, overL, Nat.reduceAdd]; rfl, Below.refl _ _⟩
        · intro f w1 hb _ K hK
          simp only [over, overL, Nat.reduceAdd]
          go_simp
          exact hK _ _ ⟨_, rfl, by simp only [over, overL, Nat.reduceAdd]; rfl, Below.refl _ _⟩
        · intro f w1 hb ⟨h16, h17, _⟩ K hK
          replace h16 : f 16 = _ := h16
          replace h17 : f 17 = _ := h17
          simp only [over, overL, Nat.reduceAdd, h16, h17]
          go_simp
          exact hK _ _ ⟨_, rfl, by simp only [over, overL, Nat.reduceAdd, h16, h17]; rfl, Below.refl _ _⟩
        · intro f w1 hb ⟨h18, _⟩ K hK
          replace h18 : f 18 = _ := h18
          have q0 := cell_later hb HQ0.out
          have q1 := cell_later hb HQ1.out
          have q2 := cell_later hb HQ2.out
          simp only [over, overL, Nat.reduceAdd, h18]
          go_simp
          exact hK _ _ ⟨_, rfl, by simp only [over, overL, Nat.reduceAdd, h18]; rfl, Below.refl _ _⟩
      intro f w1 hb hv
      have h10 : f 10 = _ := hv.1
      have h15 : f 15 = _ := hv.2.2.2.2.2.1
      have h19 : f 19 = _ := hv.2.2.2.2.2.2.2.2.2.1
      obtain ⟨fn, tmps, assign, body, hy, hR⟩ := HY.out _ (p, q) w1 (HJ.out _ _ _ HJ1.out hb) HPX.out (Nat.le_trans HKP.out.size hb.size)
      have HB : Hid (Below wr.heap.size wr w1) := hb
      clear hv hb
      dsimp only at hy
      simp only [over_eq, overL, h10, h15, h19, Nat.reduceAdd, List.drop_succ_cons, List.drop_zero]
      gi_wp2
      refine ⟨(fun h => by cases h), hR.mono ?_⟩
      rintro e w4 (⟨rfl, hJ4, hk4⟩ | ⟨rfl, hJ4⟩)
      · gi_wp2
        go_roundw
        case rel =>
          have hJK := HJK.out
          exact ⟨k + 1, .inr (by omega), by go_num, by rw [HTK.out]; exact hJ4, (HKP.out.trans (Kpt.of_below HB.out)).trans hk4⟩
        case measure => have := HJK.out; simp [intOf]; omega
      · gi_wp2
        refine bodyPost_ret (v := .tuple #[]) (results_none (by kernel_rfl) _ _ _) rfl ?_
        exact ⟨⟨_, rfl⟩, .inr ⟨_, HPX.out, hJ4⟩⟩
    · have HE : Hid ((stepsL way).take k = stepsL way) := stepsL_all (by omega)
      gi_wp2
      go_end0
      have := HJ1.out
      rw [HE.out] at this
      exact ⟨⟨_, rfl⟩, .inl ⟨_, rfl, this⟩⟩
end Go.Proofs.YtcajifelbldjnaaGreat.S

/- isSlanting walked. -/
namespace Go.Proofs.YtcajifelbldjnaaGreat.S
open Go.RowKit
attribute [local go_sem] Oper.semAt_some
/-- Does more than one number change on a step? -/
def slant (l : List Pt) : Bool := (stepsL l).any fun s => decide (1 < turnsN s.1 s.2)
theorem mem_step {l : List Pt} {s : Pt × Pt} (h : s ∈ stepsL l) : s.1 ∈ l ∧ s.2 ∈ l := by
  unfold stepsL at h
  have := List.of_mem_zip (a := s.1) (b := s.2) h
  exact ⟨this.1, List.mem_of_mem_tail this.2⟩
/-- What holds between two steps; where a step was slanting. -/
structure SlI (w : World) (pre : List (Pt × Pt)) (W : World) : Prop where
  ok : ∀ s ∈ pre, turnsN s.1 s.2 ≤ 1
  bk : Bk w.heap.size [.bool false] W
  below : Below w.heap.size w W
structure SlX (w : World) (pre : List (Pt × Pt)) (W : World) : Prop where
  ok : ∃ s ∈ pre, 1 < turnsN s.1 s.2
  bk : Bk w.heap.size [.bool true] W
  below : Below w.heap.size w W
abbrev bo1 (v : Bool) : Obj := .cells #[.bool v] 4
theorem bk_kpt {M : Nat → Prop} {b : Nat} {cs : List Value} {w w1 : World} (h : Bk b cs w) (hk : Kpt M w w1) (hM : ¬ M b) : Bk b cs w1 := h.same hk.size (hk.block b h.1 hM)
set_option maxHeartbeats 6400000 in
set_option maxRecDepth 100000 in
theorem isSlanting_any (ao : Option Addr) (cap : Nat) (way : List Pt) (w : World) (hA : Pns w ao way) (hl : way.length ≤ 9223372036854775807) (hn : ∀ p ∈ way, SmP p) :
    Calls Tryz.prog 13 #[.slice ao way.length cap] w fun e w' => e = .returned (.bool (slant way)) ∧ Below w.heap.size w w' := by
  have HA : Hid (Pns w ao way) := hA
  have HN : Hid (∀ p ∈ way, SmP p) := hn
  clear hA hn
  refine (callsIn_wide (n := 3)).1 (callsIn_of_wp_marks Tryz.func13 rfl trivial (wpIn_wide.2 ?_) rfl)
  simp only [Tryz.ntmps13, List.size_toArray, List.length_cons, List.length_nil, Nat.reduceAdd, Nat.reduceSub, Array.replicate_succ, Array.replicate_zero, List.push_toArray, List.append_toArray, List.nil_append, List.cons_append]
  go_wp2_with fail
  refine (steps_any ao way.length cap _).mono ?_
  rintro e w1 ⟨rfl, rfl⟩
  obtain ⟨wR, hwR⟩ : ∃ x, x = (w.alloc (bo1 false)).alloc (.cells #[.slice ao way.length cap] 36) := ⟨_, rfl⟩
  have hsR : wR.heap.size = w.heap.size + 2 := by rw [hwR]; simp
  have bR : Below w.heap.size w wR := by rw [hwR]; exact ((Below.refl _ _).alloc (Nat.le_refl _) _).alloc (by simp) _
  have KR : Hid (Bk w.heap.size [.bool false] wR) := by
    show Bk _ _ _
    rw [hwR]
    exact (Bk.new w [.bool false] 4 w.heap.size rfl).later ((Below.refl _ _).alloc (Nat.le_refl _) _)
  have KC : Hid (Bk (w.heap.size + 1) [.slice ao way.length cap] wR) := by
    show Bk _ _ _
    rw [hwR]
    exact Bk.new (w.alloc (bo1 false)) [.slice ao way.length cap] 36 (w.heap.size + 1) (by simp)
  have HBR : Hid (Below w.heap.size w wR) := bR
  simp only [World.size_alloc]
  go_wp2_with fail
  rw [← hwR]
  clear hwR bR
  refine range_leave (n := 3) (gf := 62) (lb := #[ptr (w.heap.size + 1)]) rfl enSt (fun k => k = w.heap.size)
    (· <+: stepsL way) (· = stepsL way) (fun s : Pt × Pt => #[pv s.1, pv s.2]) (fun _ => rfl) ?_ (by rw [hsR]; omega) (by rw [hsR]; omega)
    (SlI w) (SlX w) ?_ ?_ ⟨(fun s hs => by cases hs), KR.out, HBR.out⟩
    (fun s a1 A => ∃ (g1 g2 : Nat) (v0 v1 v5 v6 v9 v10 v11 v12 : Value), (wR.heap.size + 2 ≤ g1 ∧ wR.heap.size + 2 ≤ g2) ∧ a1 = { tmps := #[v0, v1, ptr w.heap.size, ptr g1, ptr g2, v5, v6, pv s.1, pv s.2, v9, v10, v11, v12], defers := [] } ∧ Bk g1 (pcl s.1) A ∧ Bk g2 (pcl s.2) A) ?_ ?_ ?_ ?_ ?_
  · intro W hb hs
    exact steps_lv 2 ao cap way (w.heap.size + 1) (wR.heap.size + 1) _ W ((KC.out.later hb).c 0 rfl) (by omega) ((HA.out.next HBR.out).next hb) hl (by omega) (fun hne ad e => by have := HA.out.lt hne ad e; omega)
  · rintro s A B ⟨h1, h2, h3⟩ hk
    exact ⟨h1, bk_kpt h2 hk (by omega), h3.trans (hk.below h3.size (fun k e => by omega))⟩
  · rintro s A B ⟨h1, h2, h3⟩ hk
    exact ⟨h1, bk_kpt h2 hk (by omega), h3.trans (hk.below h3.size (fun k e => by omega))⟩
  · rintro s a1 A B ⟨g1, g2, v0, v1, v5, v6, v9, v10, v11, v12, hg, h2, h3, h4⟩ hk
    exact ⟨g1, g2, v0, v1, v5, v6, v9, v10, v11, v12, hg, h2, bk_kpt h3 hk (by omega), bk_kpt h4 hk (by omega)⟩
  · intro l pre s W K hI hpre hs hK
    have HKK : Hid _ := hK
    have K1 : Hid (Bk W.heap.size (pcl s.1) ((W.alloc (po s.1)).alloc (po s.2))) := (Bk.new W (pcl s.1) 29 W.heap.size rfl).later ((Below.refl _ _).alloc (Nat.le_refl _) _)
    have K2 : Hid (Bk (W.heap.size + 1) (pcl s.2) ((W.alloc (po s.1)).alloc (po s.2))) := Bk.new (W.alloc (po s.1)) (pcl s.2) 29 (W.heap.size + 1) (by simp)
    clear hK
    gi_wp2
    exact HKK.out _ _ ⟨W.heap.size, W.heap.size + 1, _, _, _, _, _, _, _, _, by omega, rfl, K1.out, K2.out⟩ (((Below.refl _ _).alloc (Nat.le_refl _) _).alloc (by simp) _)
  · rintro l pre s a1 W ⟨hi, hk1, hb1⟩ hpre hs ⟨g1, g2, v0, v1, v5, v6, v9, v10, v11, v12, hg, rfl, hkA, hkB⟩
    have HI : Hid (∀ s ∈ pre, turnsN s.1 s.2 ≤ 1) := hi
    have HK1 : Hid (Bk w.heap.size [.bool false] W) := hk1
    have HB1 : Hid (Below w.heap.size w W) := hb1
    have HST : Hid (s.1 ∈ way ∧ s.2 ∈ way) := mem_step (hpre.subset (by simp))
    have HC : Hid (∀ X, Calls Tryz.prog 35 #[pv s.1, pv s.2] X fun e w' => e = .returned (.int .i64 (turnsN s.1 s.2)) ∧ Below X.heap.size X w') := fun X => turns_any s.1 s.2 X (HN.out _ HST.out.1) (HN.out _ HST.out.2)
    have a0 := hkA.c 0 rfl
    have a1 := hkA.c 1 rfl
    have a2 := hkA.c 2 rfl
    have b0 := hkB.c 0 rfl
    have b1 := hkB.c 1 rfl
    have b2 := hkB.c 2 rfl
    clear hi hk1 hb1 hpre hkA hkB
    gi_wp2_with fail
    refine ⟨trivial, ?_⟩
    refine (CallsIn.inRound l (callsIn_wide.2 (HC.out _))).mono ?_
    rintro e w2 ⟨rfl, hb2⟩
    have HK2 : Hid (Bk w.heap.size [.bool false] w2) := HK1.out.later hb2
    have HB2 : Hid (Below w.heap.size w w2) := HB1.out.trans (hb2.mono HB1.out.size)
    have HB12 : Hid (Below W.heap.size W w2) := hb2
    have m0 := HK2.out.c 0 rfl
    have mf := HK2.out.f 0 rfl
    clear hb2
    by_cases ht : 1 < turnsN s.1 s.2
    · have HT : Hid (1 < turnsN s.1 s.2) := ht
      gi_wp2
      exact ⟨(Kpt.of_below HB12.out).trans (Kpt.setCell _ _ _ _ rfl), ⟨s, by simp, HT.out⟩, HK2.out.put 0 _, HB2.out.setCell (Nat.le_refl _) _⟩
    · have HT : Hid (turnsN s.1 s.2 ≤ 1) := by show _ ≤ _; omega
      gi_wp2
      refine ⟨Kpt.of_below HB12.out, fun x hx => ?_, HK2.out, HB2.out⟩
      rcases List.mem_append.1 hx with hx | hx
      · exact HI.out x hx
      · simp at hx
        subst hx
        exact HT.out
  · rintro xs W rfl ⟨h1, h2, h3⟩ hs hd
    have HR : Hid (slant way = false) := by
      show _ = _
      unfold slant
      rw [List.any_eq_false]
      intro x hx
      have := h1 x hx
      simp only [decide_eq_true_eq]
      omega
    have m0 := h2.c 0 rfl
    have mf := h2.f 0 rfl
    have HB : Hid (Below w.heap.size w W) := h3
    have H2 : Hid (Bk w.heap.size [.bool false] W) := h2
    clear h1 h2 h3
    have kp : Kpt (fun k => k = wR.heap.size) (W.setCell ⟨w.heap.size, 0, none⟩ (.bool false)) ((W.setCell ⟨w.heap.size, 0, none⟩ (.bool false)).putObj wR.heap.size (.deferred none)) := Kpt.putObj _ _ _ _ rfl
    have hd1 : (W.setCell ⟨w.heap.size, 0, none⟩ (.bool false)).heap[wR.heap.size]? = some (.deferred (some [])) := (Below.heap_setCell W ⟨w.heap.size, 0, none⟩ (.bool false) wR.heap.size (by show wR.heap.size ≠ w.heap.size; omega)).trans hd
    have jp := (bk_kpt (H2.out.put 0 (.bool false)) kp (by omega)).c 0 rfl
    have HF : Hid (Below w.heap.size w ((W.setCell ⟨w.heap.size, 0, none⟩ (.bool false)).putObj wR.heap.size (.deferred none))) := (HB.out.setCell (Nat.le_refl _) _).trans (kp.below (by simpa using HB.out.size) (fun k e => by omega))
    clear kp
    go_wp2
    exact leave_mark hd1 (v := .bool false) (by simp [results, Tryz.results13, go_sem, jp]) ⟨by rw [HR.out], HF.out⟩
  · rintro pre W hpre ⟨⟨x, hx, h1⟩, h2, h3⟩ hs hd
    have HR : Hid (slant way = true) := by
      show _ = _
      unfold slant
      rw [List.any_eq_true]
      exact ⟨x, hpre.subset hx, by simpa using h1⟩
    have kp : Kpt (fun k => k = wR.heap.size) W (W.putObj wR.heap.size (.deferred none)) := Kpt.putObj _ _ _ _ rfl
    have jp := (bk_kpt h2 kp (by omega)).c 0 rfl
    have HF : Hid (Below w.heap.size w (W.putObj wR.heap.size (.deferred none))) := h3.trans (kp.below h3.size (fun k e => by omega))
    clear kp
    exact leave_mark hd (v := .bool true) (by simp [results, Tryz.results13, go_sem, jp]) ⟨by rw [HR.out], HF.out⟩
end Go.Proofs.YtcajifelbldjnaaGreat.S
