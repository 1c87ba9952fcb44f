/- unit.measureOf, walked. -/
import Derived.Test.YtpfpfnkagmmanaaGreatDoorMeas
namespace Go.Proofs.YtpfpfnkagmmanaaGreatDoor
open Go.RowKit Go.Shelf Go.Maps Go.WideMaps

theorem tabs_next {a b : Nat} {w w1 : World} (h : Lib.Utf8Tabs a b w) (hb : Below w.heap.size w w1) : Lib.Utf8Tabs a b w1 :=
  ⟨fun c hc => cell_later hb (h.1 c hc), fun i hi => ⟨cell_later hb (h.2 i hi).1, cell_later hb (h.2 i hi).2⟩⟩
theorem enters : ∀ args w, (callFunc 91 args).run Tryz.prog w = .ok (.enter 91 args) w := enters_of Tryz.func91 (by kernel_rfl) rfl
theorem plainAt (w : World) : MapAtRunes Tryz.prog 91 #[] plainF w := fun W x _ _ =>
  (plainRune x W).mono fun _ _ ⟨he, hw⟩ => ⟨he, 0, hw⟩
theorem plainF_in (x : Nat) (h : x ≤ 1114111) : 0 ≤ plainF x ∧ plainF x ≤ 2147483647 := by
  unfold plainF; split <;> omega
theorem mapPlain (s : ByteArray) (w : World) (hs : s.size < 35184372088832) (hT : Lib.Utf8Tabs 1 2 w) :
    Calls Tryz.prog 90 #[.func (.func 91) #[] #[], .string s] w fun e w' => e = .returned (.string ⟨(Lib.mapD plainF s.data.toList).toArray⟩) ∧ Below w.heap.size w w' :=
  Any.strings_Map_runes Tryz.lays230 Tryz.Builder_Extra_230 91 #[] enters plainF s w hs (plainAt w) plainF_in hT

theorem owns_next {w w1 : World} {b n : Nat} {D : DataW Unit} (h : w.ownsMap Tryz.prog 9 measElem b n D) (hb : Below w.heap.size w w1) : w1.ownsMap Tryz.prog 9 measElem b n D := by
  have hl := h.lt
  obtain ⟨es, clock, h1, h2⟩ := h
  exact ⟨es, clock, (hb.block b hl).trans h1, h2⟩
theorem made1 (w : World) (o : Obj) : ((w.alloc o).alloc (.map #[] 0)).ownsMap Tryz.prog 9 (measElem (H := Unit)) (w.heap.size + 1) 0 (.map []) := by
  have h := World.ownsMap_made (H := Unit) (w.alloc o) Tryz.prog 9 measElem
  have e : (w.alloc o).heap.size = w.heap.size + 1 := by simp
  rw [e] at h; exact h
theorem below_map {b : Nat} {a w w1 : World} (h : Below b a w) (hs : b ≤ w.heap.size) (hg : w.grownBy w1 (some b)) : Below b a w1 ∧ b ≤ w1.heap.size :=
  ⟨h.grown hg hs (fun k hk => by cases hk; exact Nat.le_refl _), Nat.le_trans hs hg.size⟩

/-- Three stores into one box, read again behind a new block. -/
theorem box3 {w : World} {b : Nat} {u0 u1 u2 : Value} (c0 : w.cell? ⟨b, 0, none⟩ = some u0) (c1 : w.cell? ⟨b, 1, none⟩ = some u1) (c2 : w.cell? ⟨b, 2, none⟩ = some u2) (x y z : Value) (o : Obj) :
    ((((w.setCell ⟨b, 0, none⟩ x).setCell ⟨b, 1, none⟩ y).setCell ⟨b, 2, none⟩ z).alloc o).cell? ⟨b, 0, none⟩ = some x ∧
    ((((w.setCell ⟨b, 0, none⟩ x).setCell ⟨b, 1, none⟩ y).setCell ⟨b, 2, none⟩ z).alloc o).cell? ⟨b, 1, none⟩ = some y ∧
    ((((w.setCell ⟨b, 0, none⟩ x).setCell ⟨b, 1, none⟩ y).setCell ⟨b, 2, none⟩ z).alloc o).cell? ⟨b, 2, none⟩ = some z := by
  have hb := (Below.refl (((w.setCell ⟨b, 0, none⟩ x).setCell ⟨b, 1, none⟩ y).setCell ⟨b, 2, none⟩ z).heap.size (((w.setCell ⟨b, 0, none⟩ x).setCell ⟨b, 1, none⟩ y).setCell ⟨b, 2, none⟩ z)).alloc (Nat.le_refl _) o
  refine ⟨cell_later hb ?_, cell_later hb ?_, cell_later hb ?_⟩
  all_goals simp [go_sem, c0, c1, c2]

/-- What measureOf gives for a name as it comes. -/
def measQ (l : List UInt8) : Int × Int × Int := (meas (Lib.mapD plainF l)).getD (0, 0, 0)

set_option maxHeartbeats 1600000 in
set_option maxRecDepth 100000 in
theorem measureOf (s : ByteArray) (w : World) (hs : s.size < 35184372088832) (hT : Lib.Utf8Tabs 1 2 w) (hm : (Lib.mapD plainF s.data.toList).length ≤ maxLen) :
    Calls Tryz.prog 80 #[.string s] w fun e w' => e = .returned (.tuple #[.agg #[.int .i64 (measQ s.data.toList).1, .int .i64 (measQ s.data.toList).2.1, .int .i64 (measQ s.data.toList).2.2], .bool (meas (Lib.mapD plainF s.data.toList)).isSome]) ∧ Below w.heap.size w w' := by
  have hmm := @run_makeMap Tryz.prog
  have o0 := made1 w (.cells #[.int .i64 0, .int .i64 0, .int .i64 0] 112)
  have b0 : Below (w.heap.size + 1) ((w.alloc (.cells #[.int .i64 0, .int .i64 0, .int .i64 0] 112)).alloc (.map #[] 0)) ((w.alloc (.cells #[.int .i64 0, .int .i64 0, .int .i64 0] 112)).alloc (.map #[] 0)) := Below.refl _ _
  have z0 : w.heap.size + 1 ≤ ((w.alloc (.cells #[.int .i64 0, .int .i64 0, .int .i64 0] 112)).alloc (.map #[] 0)).heap.size := by simp
  obtain ⟨w1, r1, o1, g1⟩ := insert1 o0 (by omega) ⟨#[]⟩ (by decide) 0 1 0
  obtain ⟨b1, z1⟩ := below_map b0 z0 g1
  clear o0 b0 z0 g1
  obtain ⟨w2, r2, o2, g2⟩ := insert1 o1 (by omega) ⟨#[110, 108]⟩ (by decide) 1 1 0
  obtain ⟨b2, z2⟩ := below_map b1 z1 g2
  clear o1 b1 z1 g2
  obtain ⟨w3, r3, o3, g3⟩ := insert1 o2 (by omega) ⟨#[117, 108]⟩ (by decide) 1 1000 0
  obtain ⟨b3, z3⟩ := below_map b2 z2 g3
  clear o2 b2 z2 g3
  obtain ⟨w4, r4, o4, g4⟩ := insert1 o3 (by omega) ⟨#[109, 108]⟩ (by decide) 1 1000000 0
  obtain ⟨b4, z4⟩ := below_map b3 z3 g4
  clear o3 b3 z3 g4
  obtain ⟨w5, r5, o5, g5⟩ := insert1 o4 (by omega) ⟨#[117, 109]⟩ (by decide) 2 1 0
  obtain ⟨b5, z5⟩ := below_map b4 z4 g5
  clear o4 b4 z4 g5
  obtain ⟨w6, r6, o6, g6⟩ := insert1 o5 (by omega) ⟨#[109, 109]⟩ (by decide) 2 1000 0
  obtain ⟨b6, z6⟩ := below_map b5 z5 g6
  clear o5 b5 z5 g6
  obtain ⟨w7, r7, o7, g7⟩ := insert1 o6 (by omega) ⟨#[99, 109]⟩ (by decide) 2 10000 0
  obtain ⟨b7, z7⟩ := below_map b6 z6 g7
  clear o6 b6 z6 g7
  obtain ⟨w8, r8, o8, g8⟩ := insert1 o7 (by omega) ⟨#[109, 75]⟩ (by decide) 3 1 0
  obtain ⟨b8, z8⟩ := below_map b7 z7 g8
  clear o7 b7 z7 g8
  obtain ⟨w9, r9, o9, g9⟩ := insert1 o8 (by omega) ⟨#[75]⟩ (by decide) 3 1000 0
  obtain ⟨b9, z9⟩ := below_map b8 z8 g9
  clear o8 b8 z8 g9
  obtain ⟨w10, r10, o10, g10⟩ := insert1 o9 (by omega) ⟨#[67]⟩ (by decide) 3 1000 273150
  obtain ⟨b10, z10⟩ := below_map b9 z9 g10
  clear o9 b9 z9 g10
  obtain ⟨w11, r11, o11, g11⟩ := insert1 o10 (by omega) ⟨#[109, 115]⟩ (by decide) 4 1 0
  obtain ⟨b11, z11⟩ := below_map b10 z10 g11
  clear o10 b10 z10 g11
  obtain ⟨w12, r12, o12, g12⟩ := insert1 o11 (by omega) ⟨#[115]⟩ (by decide) 4 1000 0
  obtain ⟨b12, z12⟩ := below_map b11 z11 g12
  clear o11 b11 z11 g12
  obtain ⟨w13, r13, o13, g13⟩ := insert1 o12 (by omega) ⟨#[109, 105, 110]⟩ (by decide) 4 60000 0
  obtain ⟨b13, z13⟩ := below_map b12 z12 g13
  clear o12 b12 z12 g13
  obtain ⟨w14, r14, o14, g14⟩ := insert1 o13 (by omega) ⟨#[104]⟩ (by decide) 4 3600000 0
  obtain ⟨b14, z14⟩ := below_map b13 z13 g14
  clear o13 b13 z13 g14
  obtain ⟨w15, r15, o15, g15⟩ := insert1 o14 (by omega) ⟨#[114, 112, 109]⟩ (by decide) 5 1 0
  obtain ⟨b15, z15⟩ := below_map b14 z14 g15
  clear o14 b14 z14 g15
  have O15 : w15.ownsMap Tryz.prog 9 measElem (w.heap.size + 1) 15 (putAll (.map [] : DataW Unit) units) := o15
  clear o15
  have hT15 : Lib.Utf8Tabs 1 2 w15 := tabs_next hT ((((Below.refl w.heap.size w).alloc (Nat.le_refl _) _).alloc (by simp) _).trans (b15.mono (by omega)))
  have B15 : Hid (Below (w.heap.size + 1) ((w.alloc (.cells #[.int .i64 0, .int .i64 0, .int .i64 0] 112)).alloc (.map #[] 0)) w15) := b15
  clear b15
  go_enter Tryz.func80, Tryz.ntmps80
  go_wp2_with fail
  refine (mapPlain s _ hs hT15).mono ?_
  rintro e w16 ⟨rfl, hb16⟩
  have o16 := owns_next O15 hb16
  have b16 := B15.out.trans (hb16.mono z15)
  obtain ⟨v, ps, hrun, hv⟩ := o16.look_ok law Tryz.underlying119 (zeroM w16) (zd := .agg [.lit (.int .i64 0), .lit (.int .i64 0), .lit (.int .i64 0)]) (zp := []) rfl (keyOf_string_mk Tryz.underlying9 (s := ⟨(Lib.mapD plainF s.data.toList).toArray⟩) (by rw [Lib.size_eq]; simpa using hm))
  rw [table_at] at hv
  rw [table_has] at hrun
  have hv2 : v = .agg #[.int .i64 (measQ s.data.toList).1, .int .i64 (measQ s.data.toList).2.1, .int .i64 (measQ s.data.toList).2.2] := by
    unfold measQ
    cases hm2 : meas (Lib.mapD plainF s.data.toList) with
    | none => rw [hm2] at hv; exact measElem_inv hv
    | some x => obtain ⟨a, b, c⟩ := x; rw [hm2] at hv; exact measElem_inv hv
  rw [hv2] at hrun
  have c0 : w16.cell? ⟨w.heap.size, 0, none⟩ = some (.int .i64 0) := (b16.cell (p := ⟨w.heap.size, 0, none⟩) (Nat.lt_succ_self _)).trans (by go_simp)
  have c1 : w16.cell? ⟨w.heap.size, 1, none⟩ = some (.int .i64 0) := (b16.cell (p := ⟨w.heap.size, 1, none⟩) (Nat.lt_succ_self _)).trans (by go_simp)
  have c2 : w16.cell? ⟨w.heap.size, 2, none⟩ = some (.int .i64 0) := (b16.cell (p := ⟨w.heap.size, 2, none⟩) (Nat.lt_succ_self _)).trans (by go_simp)
  have f0 : w16.frozen? ⟨w.heap.size, 0, none⟩ = false := (b16.frozen (p := ⟨w.heap.size, 0, none⟩) (Nat.lt_succ_self _)).trans (by go_simp)
  have f1 : w16.frozen? ⟨w.heap.size, 1, none⟩ = false := (b16.frozen (p := ⟨w.heap.size, 1, none⟩) (Nat.lt_succ_self _)).trans (by go_simp)
  have f2 : w16.frozen? ⟨w.heap.size, 2, none⟩ = false := (b16.frozen (p := ⟨w.heap.size, 2, none⟩) (Nat.lt_succ_self _)).trans (by go_simp)
  have hz : w.heap.size < w16.heap.size := by have := b16.size; simp at this; omega
  clear r1 r2 r3 r4 r5 r6 r7 r8 r9 r10 r11 r12 r13 r14 r15 hb16 o16 O15 B15 hv hv2 hT hT15 hm hs
  have hbw : Below w.heap.size w w16 := (((Below.refl w.heap.size w).alloc (Nat.le_refl _) _).alloc (by simp) _).trans (b16.mono (by omega))
  clear b16
  go_wp2
  obtain ⟨e0, e1, e2⟩ := box3 c0 c1 c2 (.int .i64 (measQ s.data.toList).1) (.int .i64 (measQ s.data.toList).2.1) (.int .i64 (measQ s.data.toList).2.2) (.cells #[.int .i64 (measQ s.data.toList).1, .int .i64 (measQ s.data.toList).2.1, .int .i64 (measQ s.data.toList).2.2] 112)
  refine bodyPost_ret (v := .tuple #[.agg #[.int .i64 (measQ s.data.toList).1, .int .i64 (measQ s.data.toList).2.1, .int .i64 (measQ s.data.toList).2.2], .bool (meas (Lib.mapD plainF s.data.toList)).isSome]) (by simp [results, Tryz.results80, go_sem, e0, e1, e2]) rfl ⟨rfl, ?_⟩
  exact (((hbw.setCell (p := ⟨w.heap.size, 0, none⟩) (Nat.le_refl _) _).setCell (p := ⟨w.heap.size, 1, none⟩) (Nat.le_refl _) _).setCell (p := ⟨w.heap.size, 2, none⟩) (Nat.le_refl _) _).alloc (by simp [World.setCell]; omega) _
end Go.Proofs.YtpfpfnkagmmanaaGreatDoor
