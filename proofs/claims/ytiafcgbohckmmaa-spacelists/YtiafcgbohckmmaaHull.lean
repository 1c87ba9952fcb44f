/- hull, moved walked. -/
import Derived.Test.YtiafcgbohckmmaaJoin
namespace Go.Proofs.Ytiafcgbohckmmaa
open Go.RowKit

theorem en47 : ∀ args w, (callFunc 47 args).run Try.prog w = .ok (.enter 47 args) w := enters_of Try.func47 (by kernel_rfl) rfl
theorem en48 : ∀ args w, (callFunc 48 args).run Try.prog w = .ok (.enter 48 args) w := enters_of Try.func48 (by kernel_rfl) rfl
theorem en50 : ∀ args w, (callFunc 50 args).run Try.prog w = .ok (.enter 50 args) w := enters_of Try.func50 (by kernel_rfl) rfl
def minP (p q : Pt) : Pt := ⟨min p.x q.x, min p.y q.y, min p.z q.z⟩
def maxP (p q : Pt) : Pt := ⟨max p.x q.x, max p.y q.y, max p.z q.z⟩
def addP (p q : Pt) : Pt := ⟨p.x + q.x, p.y + q.y, p.z + q.z⟩
/-- No number is great. -/
def SmP (p : Pt) : Prop := (-100000000000 ≤ p.x ∧ p.x ≤ 100000000000) ∧ (-100000000000 ≤ p.y ∧ p.y ≤ 100000000000) ∧ (-100000000000 ≤ p.z ∧ p.z ≤ 100000000000)
def SmB (b : Bx) : Prop := SmP b.lo ∧ SmP b.hi
theorem join_min (p q : Pt) (w : World) : Calls Try.prog 46 #[pv p, pv q, .func (.func 47) #[] #[]] w fun e w' => e = .returned (pv (minP p q)) ∧ Below w.heap.size w w' :=
  join_any 47 en47 p q (minP p q) w fun k hk W => by
    rcases (show k = 0 ∨ k = 1 ∨ k = 2 by omega) with e | e | e
    all_goals (subst e; exact min_any _ _ W)
theorem join_max (p q : Pt) (w : World) : Calls Try.prog 46 #[pv p, pv q, .func (.func 48) #[] #[]] w fun e w' => e = .returned (pv (maxP p q)) ∧ Below w.heap.size w w' :=
  join_any 48 en48 p q (maxP p q) w fun k hk W => by
    rcases (show k = 0 ∨ k = 1 ∨ k = 2 by omega) with e | e | e
    all_goals (subst e; exact max_any _ _ W)
theorem join_add (p q : Pt) (w : World) (hp : SmP p) (hq : SmP q) : Calls Try.prog 46 #[pv p, pv q, .func (.func 50) #[] #[]] w fun e w' => e = .returned (pv (addP p q)) ∧ Below w.heap.size w w' :=
  join_any 50 en50 p q (addP p q) w fun k hk W => by
    obtain ⟨⟨_, _⟩, ⟨_, _⟩, _, _⟩ := hp
    obtain ⟨⟨_, _⟩, ⟨_, _⟩, _, _⟩ := hq
    rcases (show k = 0 ∨ k = 1 ∨ k = 2 by omega) with e | e | e
    all_goals (subst e; exact add_any _ _ W (by simp only [Pt.at]; omega) (by simp only [Pt.at]; omega))

/-- A box in a block, not frozen. -/
structure Bf (b : Nat) (a : Bx) (w : World) : Prop where
  bx : BxAt w b 0 a
  f0 : w.frozen? ⟨b, 0, none⟩ = false
  f1 : w.frozen? ⟨b, 1, none⟩ = false
  f2 : w.frozen? ⟨b, 2, none⟩ = false
  f3 : w.frozen? ⟨b, 3, none⟩ = false
  f4 : w.frozen? ⟨b, 4, none⟩ = false
  f5 : w.frozen? ⟨b, 5, none⟩ = false
theorem Bf.later {b : Nat} {a : Bx} {w w' : World} (h : Bf b a w) (hb : Below w.heap.size w w') : Bf b a w' :=
  ⟨h.bx.next hb, (hb.frozen (p := ⟨b, 0, none⟩) h.bx.1).trans h.f0, (hb.frozen (p := ⟨b, 1, none⟩) h.bx.1).trans h.f1, (hb.frozen (p := ⟨b, 2, none⟩) h.bx.1).trans h.f2,
    (hb.frozen (p := ⟨b, 3, none⟩) h.bx.1).trans h.f3, (hb.frozen (p := ⟨b, 4, none⟩) h.bx.1).trans h.f4, (hb.frozen (p := ⟨b, 5, none⟩) h.bx.1).trans h.f5⟩
theorem Bf.new (w : World) (a : Bx) : Bf w.heap.size a (w.alloc (bo a)) :=
  ⟨⟨by simp, by go_simp, by go_simp, by go_simp, by go_simp, by go_simp, by go_simp⟩, by go_simp, by go_simp, by go_simp, by go_simp, by go_simp, by go_simp⟩
/-- A box put over another. -/
abbrev put6 (w : World) (b : Nat) (a : Bx) : World := (((((w.setCell ⟨b, 0, none⟩ (.int .i64 a.lx)).setCell ⟨b, 1, none⟩ (.int .i64 a.ly)).setCell ⟨b, 2, none⟩ (.int .i64 a.lz)).setCell ⟨b, 3, none⟩ (.int .i64 a.hx)).setCell ⟨b, 4, none⟩ (.int .i64 a.hy)).setCell ⟨b, 5, none⟩ (.int .i64 a.hz)
theorem below_put6 {n b : Nat} {w w' : World} {a : Bx} (h : Below n w w') (hn : n ≤ b) : Below n w (put6 w' b a) :=
  (((((h.setCell hn _).setCell hn _).setCell hn _).setCell hn _).setCell hn _).setCell hn _
abbrev zB : Bx := ⟨0, 0, 0, 0, 0, 0⟩
def hullV (a b : Bx) (n : Nat) (d : Nat) (v : Value) (_w : World) : Prop :=
  match d with
  | 5 => v = .pointer (some ⟨n, 0, none⟩)
  | 6 => v = pv a.lo
  | 7 => v = .pointer (some ⟨n + 1, 0, none⟩)
  | 8 => v = pv b.lo
  | 9 => v = pv (minP a.lo b.lo)
  | 10 => v = .pointer (some ⟨n, 3, none⟩)
  | 11 => v = pv a.hi
  | 12 => v = .pointer (some ⟨n + 1, 3, none⟩)
  | 13 => v = pv b.hi
  | 14 => v = pv (maxP a.hi b.hi)
  | 15 => v = bv (hullB a b)
  | _ => True
set_option maxHeartbeats 3200000 in
set_option maxRecDepth 100000 in
theorem hull_any (a b : Bx) (w : World) :
    Calls Try.prog 30 #[bv a, bv b] w fun e w' => e = .returned (bv (hullB a b)) ∧ Below w.heap.size w w' := by
  obtain ⟨w0, hw0⟩ : ∃ w0, w0 = ((w.alloc (bo a)).alloc (bo b)).alloc (bo zB) := ⟨_, rfl⟩
  have HW0 : Hid (w0 = ((w.alloc (bo a)).alloc (bo b)).alloc (bo zB)) := hw0
  have HB0 : Hid (Below w.heap.size w w0) := by
    show Below _ _ _
    rw [hw0]
    exact (((Below.refl _ _).alloc (Nat.le_refl _) _).alloc (by simp) _).alloc (by simp; omega) _
  have HR : Hid (Bf (w.heap.size + 1 + 1) zB w0) := by
    show Bf _ _ _
    rw [hw0]
    have h := Bf.new ((w.alloc (bo a)).alloc (bo b)) zB
    simpa using h
  clear hw0
  go_enter Try.func30, Try.ntmps30
  go_wp2_with fail
  rw [← HW0.out]
  have plx : w0.cell? ⟨w.heap.size, 0, none⟩ = some (.int .i64 a.lx) := by rw [HW0.out]; go_simp
  have ply : w0.cell? ⟨w.heap.size, 1, none⟩ = some (.int .i64 a.ly) := by rw [HW0.out]; go_simp
  have plz : w0.cell? ⟨w.heap.size, 2, none⟩ = some (.int .i64 a.lz) := by rw [HW0.out]; go_simp
  have phx : w0.cell? ⟨w.heap.size, 3, none⟩ = some (.int .i64 a.hx) := by rw [HW0.out]; go_simp
  have phy : w0.cell? ⟨w.heap.size, 4, none⟩ = some (.int .i64 a.hy) := by rw [HW0.out]; go_simp
  have phz : w0.cell? ⟨w.heap.size, 5, none⟩ = some (.int .i64 a.hz) := by rw [HW0.out]; go_simp
  have qlx : w0.cell? ⟨w.heap.size + 1, 0, none⟩ = some (.int .i64 b.lx) := by rw [HW0.out]; go_simp
  have qly : w0.cell? ⟨w.heap.size + 1, 1, none⟩ = some (.int .i64 b.ly) := by rw [HW0.out]; go_simp
  have qlz : w0.cell? ⟨w.heap.size + 1, 2, none⟩ = some (.int .i64 b.lz) := by rw [HW0.out]; go_simp
  have qhx : w0.cell? ⟨w.heap.size + 1, 3, none⟩ = some (.int .i64 b.hx) := by rw [HW0.out]; go_simp
  have qhy : w0.cell? ⟨w.heap.size + 1, 4, none⟩ = some (.int .i64 b.hy) := by rw [HW0.out]; go_simp
  have qhz : w0.cell? ⟨w.heap.size + 1, 5, none⟩ = some (.int .i64 b.hz) := by rw [HW0.out]; go_simp
  refine region_seq 11 [false, false, false, false, false, true, true, true, true, true, true, true, true, true, true, true]
    [(5, [], none), (6, [5], none), (7, [], none), (8, [7], none), (9, [6, 8], none), (10, [], none), (11, [10], none), (12, [], none), (13, [12], none), (14, [11, 13], none), (15, [9, 14], none)]
    (hullV a b w.heap.size) (by kernel_rfl) (by kernel_rfl) (by kernel_rfl) (by kernel_rfl) (by kernel_rfl) (by decide) (fun _ _ _ _ h _ => h) ?_ ?_
  · refine ⟨?_, ?_, ?_, ?_, ?_, ?_, ?_, ?_, ?_, ?_, ?_, trivial⟩
    · intro f w1 hb _ K hK
      simp only [over, overL, Nat.reduceAdd]
      go_simp
      exact hK _ _ ⟨_, rfl, by simp only [over, overL, Nat.reduceAdd]; rfl, Below.refl _ _⟩
    · intro f w1 hb ⟨h5, _⟩ K hK
      have h5 : f 5 = _ := h5
      have cplx := cell_later hb plx
      have cply := cell_later hb ply
      have cplz := cell_later hb plz
      simp only [over, overL, Nat.reduceAdd, h5]
      go_simp
      exact hK _ _ ⟨_, rfl, by simp only [over, overL, Nat.reduceAdd, h5]; rfl, Below.refl _ _⟩
    · intro f w1 hb _ K hK
      simp only [over, overL, Nat.reduceAdd]
      go_simp
      exact hK _ _ ⟨_, rfl, by simp only [over, overL, Nat.reduceAdd]; rfl, Below.refl _ _⟩
    · intro f w1 hb ⟨h7, _⟩ K hK
      have h7 : f 7 = _ := h7
      have cqlx := cell_later hb qlx
      have cqly := cell_later hb qly
      have cqlz := cell_later hb qlz
      simp only [over, overL, Nat.reduceAdd, h7]
      go_simp
      exact hK _ _ ⟨_, rfl, by simp only [over, overL, Nat.reduceAdd, h7]; rfl, Below.refl _ _⟩
    · intro f w1 hb ⟨h6, h8, _⟩ K hK
      have h6 : f 6 = _ := h6
      have h8 : f 8 = _ := h8
      simp only [over, overL, Nat.reduceAdd, h6, h8]
      go_simp
      refine (join_min a.lo b.lo w1).mono ?_
      rintro e w2 ⟨rfl, hbn⟩
      exact hK _ _ ⟨_, rfl, by simp only [over, overL, Nat.reduceAdd, h6, h8]; rfl, hbn⟩
    · intro f w1 hb _ K hK
      simp only [over, overL, Nat.reduceAdd]
      go_simp
      exact hK _ _ ⟨_, rfl, by simp only [over, overL, Nat.reduceAdd]; rfl, Below.refl _ _⟩
    · intro f w1 hb ⟨h10, _⟩ K hK
      have h10 : f 10 = _ := h10
      have cphx := cell_later hb phx
      have cphy := cell_later hb phy
      have cphz := cell_later hb phz
      simp only [over, overL, Nat.reduceAdd, h10]
      go_simp
      exact hK _ _ ⟨_, rfl, by simp only [over, overL, Nat.reduceAdd, h10]; rfl, Below.refl _ _⟩
    · intro f w1 hb _ K hK
      simp only [over, overL, Nat.reduceAdd]
      go_simp
      exact hK _ _ ⟨_, rfl, by simp only [over, overL, Nat.reduceAdd]; rfl, Below.refl _ _⟩
    · intro f w1 hb ⟨h12, _⟩ K hK
      have h12 : f 12 = _ := h12
      have cqhx := cell_later hb qhx
      have cqhy := cell_later hb qhy
      have cqhz := cell_later hb qhz
      simp only [over, overL, Nat.reduceAdd, h12]
      go_simp
      exact hK _ _ ⟨_, rfl, by simp only [over, overL, Nat.reduceAdd, h12]; rfl, Below.refl _ _⟩
    · intro f w1 hb ⟨h11, h13, _⟩ K hK
      have h11 : f 11 = _ := h11
      have h13 : f 13 = _ := h13
      simp only [over, overL, Nat.reduceAdd, h11, h13]
      go_simp
      refine (join_max a.hi b.hi w1).mono ?_
      rintro e w2 ⟨rfl, hbn⟩
      exact hK _ _ ⟨_, rfl, by simp only [over, overL, Nat.reduceAdd, h11, h13]; rfl, hbn⟩
    · intro f w1 hb ⟨h9, h14, _⟩ K hK
      have h9 : f 9 = _ := h9
      have h14 : f 14 = _ := h14
      simp only [over, overL, Nat.reduceAdd, h9, h14]
      go_simp
      exact hK _ _ ⟨_, rfl, by simp only [over, overL, Nat.reduceAdd, h9, h14]; rfl, Below.refl _ _⟩
  intro f w1 hb1 h
  have hl : f 15 = bv (hullB a b) := h.2.2.2.2.2.2.2.2.2.2.1
  have hR := HR.out.later hb1
  obtain ⟨⟨_, r0, r1, r2, r3, r4, r5⟩, f0, f1, f2, f3, f4, f5⟩ := hR
  simp only [Nat.zero_add] at r1 r2 r3 r4 r5
  have HB : Hid (Below w.heap.size w w1) := HB0.out.trans (hb1.mono HB0.out.size)
  clear hb1 h
  simp only [over_eq, overL, hl, Nat.reduceAdd, List.drop_succ_cons, List.drop_zero]
  go_wp2
  refine bodyPost_ret (v := bv (hullB a b)) (by simp [results, Try.results30, go_sem, r0, r1, r2, r3, r4, r5]) rfl ⟨rfl, ?_⟩
  exact below_put6 HB.out (by omega)

def movedV (a : Bx) (p : Pt) (n : Nat) (d : Nat) (v : Value) (_w : World) : Prop :=
  match d with
  | 6 => v = .pointer (some ⟨n, 0, none⟩)
  | 7 => v = pv a.lo
  | 8 => v = pv p
  | 9 => v = .func (.func 50) #[] #[]
  | 10 => v = pv (addP a.lo p)
  | 11 => v = .pointer (some ⟨n, 3, none⟩)
  | 12 => v = pv a.hi
  | 13 => v = pv p
  | 14 => v = .func (.func 50) #[] #[]
  | 15 => v = pv (addP a.hi p)
  | 16 => v = bv (movB a p)
  | _ => True
set_option maxHeartbeats 3200000 in
set_option maxRecDepth 100000 in
theorem moved_any (a : Bx) (p : Pt) (w : World) (ha : SmB a) (hp : SmP p) :
    Calls Try.prog 32 #[bv a, pv p] w fun e w' => e = .returned (bv (movB a p)) ∧ Below w.heap.size w w' := by
  obtain ⟨w0, hw0⟩ : ∃ w0, w0 = ((w.alloc (bo a)).alloc (po p)).alloc (bo zB) := ⟨_, rfl⟩
  have HW0 : Hid (w0 = ((w.alloc (bo a)).alloc (po p)).alloc (bo zB)) := hw0
  have HB0 : Hid (Below w.heap.size w w0) := by
    show Below _ _ _
    rw [hw0]
    exact (((Below.refl _ _).alloc (Nat.le_refl _) _).alloc (by simp) _).alloc (by simp; omega) _
  have HR : Hid (Bf (w.heap.size + 1 + 1) zB w0) := by
    show Bf _ _ _
    rw [hw0]
    have h := Bf.new ((w.alloc (bo a)).alloc (po p)) zB
    simpa using h
  clear hw0
  go_enter Try.func32, Try.ntmps32
  go_wp2_with fail
  rw [← HW0.out]
  have plx : w0.cell? ⟨w.heap.size, 0, none⟩ = some (.int .i64 a.lx) := by rw [HW0.out]; go_simp
  have ply : w0.cell? ⟨w.heap.size, 1, none⟩ = some (.int .i64 a.ly) := by rw [HW0.out]; go_simp
  have plz : w0.cell? ⟨w.heap.size, 2, none⟩ = some (.int .i64 a.lz) := by rw [HW0.out]; go_simp
  have phx : w0.cell? ⟨w.heap.size, 3, none⟩ = some (.int .i64 a.hx) := by rw [HW0.out]; go_simp
  have phy : w0.cell? ⟨w.heap.size, 4, none⟩ = some (.int .i64 a.hy) := by rw [HW0.out]; go_simp
  have phz : w0.cell? ⟨w.heap.size, 5, none⟩ = some (.int .i64 a.hz) := by rw [HW0.out]; go_simp
  have qx : w0.cell? ⟨w.heap.size + 1, 0, none⟩ = some (.int .i64 p.x) := by rw [HW0.out]; go_simp
  have qy : w0.cell? ⟨w.heap.size + 1, 1, none⟩ = some (.int .i64 p.y) := by rw [HW0.out]; go_simp
  have qz : w0.cell? ⟨w.heap.size + 1, 2, none⟩ = some (.int .i64 p.z) := by rw [HW0.out]; go_simp
  refine region_seq 11 [false, false, false, false, false, false, true, true, true, true, true, true, true, true, true, true, true]
    [(6, [], none), (7, [6], none), (8, [], none), (9, [], none), (10, [7, 8, 9], none), (11, [], none), (12, [11], none), (13, [], none), (14, [], none), (15, [12, 13, 14], none), (16, [10, 15], none)]
    (movedV a p w.heap.size) (by kernel_rfl) (by kernel_rfl) (by kernel_rfl) (by kernel_rfl) (by kernel_rfl) (by decide) (fun _ _ _ _ h _ => h) ?_ ?_
  · refine ⟨?_, ?_, ?_, ?_, ?_, ?_, ?_, ?_, ?_, ?_, ?_, trivial⟩
    · intro f w1 hb _ K hK
      simp only [over, overL, Nat.reduceAdd]
      go_simp
      exact hK _ _ ⟨_, rfl, by simp only [over, overL, Nat.reduceAdd]; rfl, Below.refl _ _⟩
    · intro f w1 hb ⟨h6, _⟩ K hK
      have h6 : f 6 = _ := h6
      have cplx := cell_later hb plx
      have cply := cell_later hb ply
      have cplz := cell_later hb plz
      simp only [over, overL, Nat.reduceAdd, h6]
      go_simp
      exact hK _ _ ⟨_, rfl, by simp only [over, overL, Nat.reduceAdd, h6]; rfl, Below.refl _ _⟩
    · intro f w1 hb _ K hK
      have cqx := cell_later hb qx
      have cqy := cell_later hb qy
      have cqz := cell_later hb qz
      simp only [over, overL, Nat.reduceAdd]
      go_simp
      exact hK _ _ ⟨_, rfl, by simp only [over, overL, Nat.reduceAdd]; rfl, Below.refl _ _⟩
    · intro f w1 hb _ K hK
      simp only [over, overL, Nat.reduceAdd]
      go_simp
      exact hK _ _ ⟨_, rfl, by simp only [over, overL, Nat.reduceAdd]; rfl, Below.refl _ _⟩
    · intro f w1 hb ⟨h7, h8, h9, _⟩ K hK
      have h7 : f 7 = _ := h7
      have h8 : f 8 = _ := h8
      have h9 : f 9 = _ := h9
      simp only [over, overL, Nat.reduceAdd, h7, h8, h9]
      go_simp
      refine (join_add a.lo p w1 ha.1 hp).mono ?_
      rintro e w2 ⟨rfl, hbn⟩
      exact hK _ _ ⟨_, rfl, by simp only [over, overL, Nat.reduceAdd, h7, h8, h9]; rfl, hbn⟩
    · intro f w1 hb _ K hK
      simp only [over, overL, Nat.reduceAdd]
      go_simp
      exact hK _ _ ⟨_, rfl, by simp only [over, overL, Nat.reduceAdd]; rfl, Below.refl _ _⟩
    · intro f w1 hb ⟨h11, _⟩ K hK
      have h11 : f 11 = _ := h11
      have cphx := cell_later hb phx
      have cphy := cell_later hb phy
      have cphz := cell_later hb phz
      simp only [over, overL, Nat.reduceAdd, h11]
      go_simp
      exact hK _ _ ⟨_, rfl, by simp only [over, overL, Nat.reduceAdd, h11]; rfl, Below.refl _ _⟩
    · intro f w1 hb _ K hK
      have cqx := cell_later hb qx
      have cqy := cell_later hb qy
      have cqz := cell_later hb qz
      simp only [over, overL, Nat.reduceAdd]
      go_simp
      exact hK _ _ ⟨_, rfl, by simp only [over, overL, Nat.reduceAdd]; rfl, Below.refl _ _⟩
    · intro f w1 hb _ K hK
      simp only [over, overL, Nat.reduceAdd]
      go_simp
      exact hK _ _ ⟨_, rfl, by simp only [over, overL, Nat.reduceAdd]; rfl, Below.refl _ _⟩
    · intro f w1 hb ⟨h12, h13, h14, _⟩ K hK
      have h12 : f 12 = _ := h12
      have h13 : f 13 = _ := h13
      have h14 : f 14 = _ := h14
      simp only [over, overL, Nat.reduceAdd, h12, h13, h14]
      go_simp
      refine (join_add a.hi p w1 ha.2 hp).mono ?_
      rintro e w2 ⟨rfl, hbn⟩
      exact hK _ _ ⟨_, rfl, by simp only [over, overL, Nat.reduceAdd, h12, h13, h14]; rfl, hbn⟩
    · intro f w1 hb ⟨h10, h15, _⟩ K hK
      have h10 : f 10 = _ := h10
      have h15 : f 15 = _ := h15
      simp only [over, overL, Nat.reduceAdd, h10, h15]
      go_simp
      exact hK _ _ ⟨_, rfl, by simp only [over, overL, Nat.reduceAdd, h10, h15]; rfl, Below.refl _ _⟩
  intro f w1 hb1 h
  have hl : f 16 = bv (movB a p) := h.2.2.2.2.2.2.2.2.2.2.1
  have hR := HR.out.later hb1
  obtain ⟨⟨_, r0, r1, r2, r3, r4, r5⟩, f0, f1, f2, f3, f4, f5⟩ := hR
  simp only [Nat.zero_add] at r1 r2 r3 r4 r5
  have HB : Hid (Below w.heap.size w w1) := HB0.out.trans (hb1.mono HB0.out.size)
  clear hb1 h
  simp only [over_eq, overL, hl, Nat.reduceAdd, List.drop_succ_cons, List.drop_zero]
  go_wp2
  refine bodyPost_ret (v := bv (movB a p)) (by simp [results, Try.results32, go_sem, r0, r1, r2, r3, r4, r5]) rfl ⟨rfl, ?_⟩
  exact below_put6 HB.out (by omega)

end Go.Proofs.Ytiafcgbohckmmaa
