/- Numbers of points: the three closures, isBelow, isOrdered, isStraight, isNear walked. -/
import Derived.Test.YtiafcgbohckmmaaBase
namespace Go.Proofs.Ytiafcgbohckmmaa
open Go.RowKit

theorem min_any (x y : Int) (w : World) : Calls Try.prog 47 #[.int .i64 x, .int .i64 y] w fun e w' => e = .returned (.int .i64 (min x y)) ∧ w' = w := by
  go_enter Try.func47, Try.ntmps47
  go_wp2
  all_goals
    go_ret
    exact ⟨ret_int (by omega), rfl⟩
theorem max_any (x y : Int) (w : World) : Calls Try.prog 48 #[.int .i64 x, .int .i64 y] w fun e w' => e = .returned (.int .i64 (max x y)) ∧ w' = w := by
  go_enter Try.func48, Try.ntmps48
  go_wp2
  all_goals
    go_ret
    exact ⟨ret_int (by omega), rfl⟩
theorem add_any (x y : Int) (w : World) (h : -9223372036854775808 ≤ x + y) (h2 : x + y ≤ 9223372036854775807) : Calls Try.prog 50 #[.int .i64 x, .int .i64 y] w fun e w' => e = .returned (.int .i64 (x + y)) ∧ w' = w := by
  go_enter Try.func50, Try.ntmps50
  go_wp2
  go_ret
  exact ⟨rfl, rfl⟩

theorem below_grow {w w' : World} (n : Nat) (hn : n ≤ w.heap.size) (h : Below n w w') (o : Obj) : Below n w (w'.alloc o) := h.alloc (Nat.le_trans hn h.size) o

set_option maxHeartbeats 3200000 in
theorem isBelow_any (p q : Pt) (w : World) :
    Calls Try.prog 45 #[pv p, pv q] w fun e w' => e = .returned (.bool (below p q)) ∧ Below w.heap.size w w' := by
  obtain ⟨px, py, pz⟩ := p
  obtain ⟨qx, qy, qz⟩ := q
  have hx := ix0 px py pz
  have hy := ix1 px py pz
  have hz := ix2 px py pz
  go_enter Try.func45, Try.ntmps45
  go_wp2_with fail
  refine (numbers_any ⟨qx, qy, qz⟩ _).mono ?_
  rintro e w1 ⟨rfl, rfl⟩
  go_wp2_with fail
  refine (numbers_any ⟨px, py, pz⟩ _).mono ?_
  rintro e w1 ⟨rfl, rfl⟩
  go_wp2_with fail
  by_cases h0 : px < qx
  · by_cases h1 : py < qy
    · by_cases h2 : pz < qz
      · refine wp_loop_rounds 4 ?_
        rw [rounds_succ]
        go_wp2
        rw [rounds_succ]
        go_wp2
        rw [rounds_succ]
        go_wp2
        rw [rounds_succ]
        go_wp2
        go_ret
        refine ⟨ret_bool (below_yes h0 h1 h2), ?_⟩
        repeat (first | exact Below.refl _ _ | refine below_grow _ (Nat.le_refl _) ?_ _)
      · refine wp_loop_rounds 4 ?_
        rw [rounds_succ]
        go_wp2
        rw [rounds_succ]
        go_wp2
        rw [rounds_succ]
        go_wp2
        go_ret
        refine ⟨ret_bool (below_no (.inr (.inr (by simp only; omega)))), ?_⟩
        repeat (first | exact Below.refl _ _ | refine below_grow _ (Nat.le_refl _) ?_ _)
    · refine wp_loop_rounds 4 ?_
      rw [rounds_succ]
      go_wp2
      rw [rounds_succ]
      go_wp2
      go_ret
      refine ⟨ret_bool (below_no (.inr (.inl (by simp only; omega)))), ?_⟩
      repeat (first | exact Below.refl _ _ | refine below_grow _ (Nat.le_refl _) ?_ _)
  · refine wp_loop_rounds 4 ?_
    rw [rounds_succ]
    go_wp2
    go_ret
    refine ⟨ret_bool (below_no (.inl (by simp only; omega))), ?_⟩
    repeat (first | exact Below.refl _ _ | refine below_grow _ (Nat.le_refl _) ?_ _)

set_option maxHeartbeats 3200000 in
theorem isOrdered_any (a : Bx) (w : World) :
    Calls Try.prog 41 #[bv a] w fun e w' => e = .returned (.bool (atMost a.lo a.hi)) ∧ Below w.heap.size w w' := by
  obtain ⟨px, py, pz, qx, qy, qz⟩ := a
  have hx := ix0 px py pz
  have hy := ix1 px py pz
  have hz := ix2 px py pz
  go_enter Try.func41, Try.ntmps41
  go_wp2_with fail
  refine (numbers_any ⟨qx, qy, qz⟩ _).mono ?_
  rintro e w1 ⟨rfl, rfl⟩
  go_wp2_with fail
  refine (numbers_any ⟨px, py, pz⟩ _).mono ?_
  rintro e w1 ⟨rfl, rfl⟩
  go_wp2_with fail
  by_cases h0 : px ≤ qx
  · by_cases h1 : py ≤ qy
    · by_cases h2 : pz ≤ qz
      · refine wp_loop_rounds 4 ?_
        rw [rounds_succ]
        go_wp2
        rw [rounds_succ]
        go_wp2
        rw [rounds_succ]
        go_wp2
        rw [rounds_succ]
        go_wp2
        go_ret
        refine ⟨ret_bool (atMost_yes h0 h1 h2), ?_⟩
        repeat (first | exact Below.refl _ _ | refine below_grow _ (Nat.le_refl _) ?_ _)
      · refine wp_loop_rounds 4 ?_
        rw [rounds_succ]
        go_wp2
        rw [rounds_succ]
        go_wp2
        rw [rounds_succ]
        go_wp2
        go_ret
        refine ⟨ret_bool (atMost_no (.inr (.inr (by simp only; omega)))), ?_⟩
        repeat (first | exact Below.refl _ _ | refine below_grow _ (Nat.le_refl _) ?_ _)
    · refine wp_loop_rounds 4 ?_
      rw [rounds_succ]
      go_wp2
      rw [rounds_succ]
      go_wp2
      go_ret
      refine ⟨ret_bool (atMost_no (.inr (.inl (by simp only; omega)))), ?_⟩
      repeat (first | exact Below.refl _ _ | refine below_grow _ (Nat.le_refl _) ?_ _)
  · refine wp_loop_rounds 4 ?_
    rw [rounds_succ]
    go_wp2
    go_ret
    refine ⟨ret_bool (atMost_no (.inl (by simp only; omega))), ?_⟩
    repeat (first | exact Below.refl _ _ | refine below_grow _ (Nat.le_refl _) ?_ _)

set_option maxHeartbeats 3200000 in
theorem isStraight_any (p : Pt) (w : World) :
    Calls Try.prog 33 #[pv p] w fun e w' => e = .returned (.bool (straight p)) ∧ Below w.heap.size w w' := by
  obtain ⟨px, py, pz⟩ := p
  have hx := ix0 px py pz
  have hy := ix1 px py pz
  have hz := ix2 px py pz
  go_enter Try.func33, Try.ntmps33
  go_wp2_with fail
  refine (numbers_any ⟨px, py, pz⟩ _).mono ?_
  rintro e w1 ⟨rfl, rfl⟩
  go_wp2_with fail
  by_cases hpx : px = 0
  · have Hpx : Hid (one px = 0) := by show one px = 0; rw [hpx]; rfl
    have bpx : (px == 0) = true := by simp [hpx]
    have cpx : (px != 0) = false := by simp [hpx]
    clear hpx
    by_cases hpy : py = 0
    · have Hpy : Hid (one py = 0) := by show one py = 0; rw [hpy]; rfl
      have bpy : (py == 0) = true := by simp [hpy]
      have cpy : (py != 0) = false := by simp [hpy]
      clear hpy
      by_cases hpz : pz = 0
      · have Hpz : Hid (one pz = 0) := by show one pz = 0; rw [hpz]; rfl
        have bpz : (pz == 0) = true := by simp [hpz]
        have cpz : (pz != 0) = false := by simp [hpz]
        clear hpz
        refine wp_loop_rounds 4 ?_
        rw [rounds_succ]
        go_wp2
        rw [rounds_succ]
        go_wp2
        rw [rounds_succ]
        go_wp2
        rw [rounds_succ]
        go_wp2
        go_ret
        refine ⟨ret_bool (by simp only [straight, Hpx.out, Hpy.out, Hpz.out]; rfl), ?_⟩
        repeat (first | exact Below.refl _ _ | refine below_grow _ (Nat.le_refl _) ?_ _)
      · have Hpz : Hid (one pz = 1) := one_of hpz
        have bpz : (pz == 0) = false := by simp [hpz]
        have cpz : (pz != 0) = true := by simp [hpz]
        clear hpz
        refine wp_loop_rounds 4 ?_
        rw [rounds_succ]
        go_wp2
        rw [rounds_succ]
        go_wp2
        rw [rounds_succ]
        go_wp2
        rw [rounds_succ]
        go_wp2
        go_ret
        refine ⟨ret_bool (by simp only [straight, Hpx.out, Hpy.out, Hpz.out]; rfl), ?_⟩
        repeat (first | exact Below.refl _ _ | refine below_grow _ (Nat.le_refl _) ?_ _)
    · have Hpy : Hid (one py = 1) := one_of hpy
      have bpy : (py == 0) = false := by simp [hpy]
      have cpy : (py != 0) = true := by simp [hpy]
      clear hpy
      by_cases hpz : pz = 0
      · have Hpz : Hid (one pz = 0) := by show one pz = 0; rw [hpz]; rfl
        have bpz : (pz == 0) = true := by simp [hpz]
        have cpz : (pz != 0) = false := by simp [hpz]
        clear hpz
        refine wp_loop_rounds 4 ?_
        rw [rounds_succ]
        go_wp2
        rw [rounds_succ]
        go_wp2
        rw [rounds_succ]
        go_wp2
        rw [rounds_succ]
        go_wp2
        go_ret
        refine ⟨ret_bool (by simp only [straight, Hpx.out, Hpy.out, Hpz.out]; rfl), ?_⟩
        repeat (first | exact Below.refl _ _ | refine below_grow _ (Nat.le_refl _) ?_ _)
      · have Hpz : Hid (one pz = 1) := one_of hpz
        have bpz : (pz == 0) = false := by simp [hpz]
        have cpz : (pz != 0) = true := by simp [hpz]
        clear hpz
        refine wp_loop_rounds 4 ?_
        rw [rounds_succ]
        go_wp2
        rw [rounds_succ]
        go_wp2
        rw [rounds_succ]
        go_wp2
        rw [rounds_succ]
        go_wp2
        go_ret
        refine ⟨ret_bool (by simp only [straight, Hpx.out, Hpy.out, Hpz.out]; rfl), ?_⟩
        repeat (first | exact Below.refl _ _ | refine below_grow _ (Nat.le_refl _) ?_ _)
  · have Hpx : Hid (one px = 1) := one_of hpx
    have bpx : (px == 0) = false := by simp [hpx]
    have cpx : (px != 0) = true := by simp [hpx]
    clear hpx
    by_cases hpy : py = 0
    · have Hpy : Hid (one py = 0) := by show one py = 0; rw [hpy]; rfl
      have bpy : (py == 0) = true := by simp [hpy]
      have cpy : (py != 0) = false := by simp [hpy]
      clear hpy
      by_cases hpz : pz = 0
      · have Hpz : Hid (one pz = 0) := by show one pz = 0; rw [hpz]; rfl
        have bpz : (pz == 0) = true := by simp [hpz]
        have cpz : (pz != 0) = false := by simp [hpz]
        clear hpz
        refine wp_loop_rounds 4 ?_
        rw [rounds_succ]
        go_wp2
        rw [rounds_succ]
        go_wp2
        rw [rounds_succ]
        go_wp2
        rw [rounds_succ]
        go_wp2
        go_ret
        refine ⟨ret_bool (by simp only [straight, Hpx.out, Hpy.out, Hpz.out]; rfl), ?_⟩
        repeat (first | exact Below.refl _ _ | refine below_grow _ (Nat.le_refl _) ?_ _)
      · have Hpz : Hid (one pz = 1) := one_of hpz
        have bpz : (pz == 0) = false := by simp [hpz]
        have cpz : (pz != 0) = true := by simp [hpz]
        clear hpz
        refine wp_loop_rounds 4 ?_
        rw [rounds_succ]
        go_wp2
        rw [rounds_succ]
        go_wp2
        rw [rounds_succ]
        go_wp2
        rw [rounds_succ]
        go_wp2
        go_ret
        refine ⟨ret_bool (by simp only [straight, Hpx.out, Hpy.out, Hpz.out]; rfl), ?_⟩
        repeat (first | exact Below.refl _ _ | refine below_grow _ (Nat.le_refl _) ?_ _)
    · have Hpy : Hid (one py = 1) := one_of hpy
      have bpy : (py == 0) = false := by simp [hpy]
      have cpy : (py != 0) = true := by simp [hpy]
      clear hpy
      by_cases hpz : pz = 0
      · have Hpz : Hid (one pz = 0) := by show one pz = 0; rw [hpz]; rfl
        have bpz : (pz == 0) = true := by simp [hpz]
        have cpz : (pz != 0) = false := by simp [hpz]
        clear hpz
        refine wp_loop_rounds 4 ?_
        rw [rounds_succ]
        go_wp2
        rw [rounds_succ]
        go_wp2
        rw [rounds_succ]
        go_wp2
        rw [rounds_succ]
        go_wp2
        go_ret
        refine ⟨ret_bool (by simp only [straight, Hpx.out, Hpy.out, Hpz.out]; rfl), ?_⟩
        repeat (first | exact Below.refl _ _ | refine below_grow _ (Nat.le_refl _) ?_ _)
      · have Hpz : Hid (one pz = 1) := one_of hpz
        have bpz : (pz == 0) = false := by simp [hpz]
        have cpz : (pz != 0) = true := by simp [hpz]
        clear hpz
        refine wp_loop_rounds 4 ?_
        rw [rounds_succ]
        go_wp2
        rw [rounds_succ]
        go_wp2
        rw [rounds_succ]
        go_wp2
        rw [rounds_succ]
        go_wp2
        go_ret
        refine ⟨ret_bool (by simp only [straight, Hpx.out, Hpy.out, Hpz.out]; rfl), ?_⟩
        repeat (first | exact Below.refl _ _ | refine below_grow _ (Nat.le_refl _) ?_ _)

set_option maxHeartbeats 6400000 in
theorem isNear_any (b c : Nat) (ps : List Pt) (w : World) (hP : Pts w b ps) (hl : ps.length ≤ 100) :
    Calls Try.prog 31 #[.slice (some ⟨b, 0, none⟩) ps.length c] w fun e w' => e = .returned (.bool (ps.all nearP)) ∧ Below w.heap.size w w' := by
  have HP : Hid (Pts w b ps) := hP
  clear hP
  go_enter Try.func31, Try.ntmps31
  go_wp2
  go_loopw [9] (fun i wr => ∃ k : Nat, k ≤ ps.length ∧ i = .int .i64 k ∧ (∀ p ∈ ps.take k, nearP p = true) ∧ Below w.heap.size w wr) (fun i _ => ps.length - (intOf i).toNat)
  case atStart => exact ⟨0, Nat.zero_le _, rfl, (fun f hf => by simp at hf), Below.refl _ _⟩
  case round =>
    obtain ⟨k, hk, rfl, hok, hb⟩ := hrel
    obtain ⟨w1, rfl⟩ : ∃ w1, w1 = wr := ⟨_, rfl⟩
    have HB : Hid (Below w.heap.size w w1) := hb
    have HO : Hid (∀ p ∈ ps.take k, nearP p = true) := hok
    clear hb hok
    by_cases hlt : k < ps.length
    · obtain ⟨c0, c1, c2⟩ := HP.out.next HB.out k hlt
      have HX : Hid (∀ p, nearP (ps[k]'hlt) = p → (p = false → ps.all nearP = false) ∧ (p = true → ∀ q ∈ ps.take (k + 1), nearP q = true)) := by
        show ∀ p, _
        rintro p rfl
        refine ⟨fun h => ?_, fun h => ?_⟩
        · rw [List.all_eq_false]; exact ⟨_, List.getElem_mem hlt, by simp [h]⟩
        · rw [List.take_succ_eq_append_getElem hlt]
          intro f hf
          rcases List.mem_append.1 hf with hf | hf
          · exact HO.out f hf
          · simp at hf; subst hf; exact h
      generalize ps[k]'hlt = p at *
      obtain ⟨px, py, pz⟩ := p
      simp only at c0 c1 c2
      have hx := ix0 px py pz
      have hy := ix1 px py pz
      have hz := ix2 px py pz
      go_wp2_with fail
      refine (numbers_any ⟨px, py, pz⟩ _).mono ?_
      rintro e w2 ⟨rfl, rfl⟩
      have HB2 : Hid (Below w.heap.size w (((w1.alloc (.cells #[.int .i64 px, .int .i64 py, .int .i64 pz] 23)).alloc (.cells #[.int .i64 px, .int .i64 py, .int .i64 pz] 23)).alloc (.cells #[.int .i64 px, .int .i64 py, .int .i64 pz] 67))) := by
        refine below_grow _ (Nat.le_refl _) (below_grow _ (Nat.le_refl _) (below_grow _ (Nat.le_refl _) HB.out _) _) _
      go_wp2_with fail
      by_cases lpx : px < -10000000
      · have Hn : Hid (nr px = false) := nr_no (.inl lpx)
        have tpx : decide (px < -10000000) = true := decide_eq_true lpx
        refine wp_loop_rounds 4 ?_
        rw [rounds_succ]
        go_wp2
        go_ret
        exact ⟨ret_bool ((HX.out _ rfl).1 (nearP_no (.inl Hn.out))).symm, HB2.out⟩
      by_cases gpx : 10000000 < px
      · have Hn : Hid (nr px = false) := nr_no (.inr gpx)
        have tpx : decide (px < -10000000) = false := decide_eq_false lpx
        have spx : decide (10000000 < px) = true := decide_eq_true gpx
        refine wp_loop_rounds 4 ?_
        rw [rounds_succ]
        go_wp2
        go_ret
        exact ⟨ret_bool ((HX.out _ rfl).1 (nearP_no (.inl Hn.out))).symm, HB2.out⟩
      have Hpx : Hid (nr px = true) := nr_yes (by omega) (by omega)
      have tpx : decide (px < -10000000) = false := decide_eq_false lpx
      have spx : decide (10000000 < px) = false := decide_eq_false gpx
      by_cases lpy : py < -10000000
      · have Hn : Hid (nr py = false) := nr_no (.inl lpy)
        have tpy : decide (py < -10000000) = true := decide_eq_true lpy
        refine wp_loop_rounds 4 ?_
        rw [rounds_succ]
        go_wp2
        rw [rounds_succ]
        go_wp2
        go_ret
        exact ⟨ret_bool ((HX.out _ rfl).1 (nearP_no (.inr (.inl Hn.out)))).symm, HB2.out⟩
      by_cases gpy : 10000000 < py
      · have Hn : Hid (nr py = false) := nr_no (.inr gpy)
        have tpy : decide (py < -10000000) = false := decide_eq_false lpy
        have spy : decide (10000000 < py) = true := decide_eq_true gpy
        refine wp_loop_rounds 4 ?_
        rw [rounds_succ]
        go_wp2
        rw [rounds_succ]
        go_wp2
        go_ret
        exact ⟨ret_bool ((HX.out _ rfl).1 (nearP_no (.inr (.inl Hn.out)))).symm, HB2.out⟩
      have Hpy : Hid (nr py = true) := nr_yes (by omega) (by omega)
      have tpy : decide (py < -10000000) = false := decide_eq_false lpy
      have spy : decide (10000000 < py) = false := decide_eq_false gpy
      by_cases lpz : pz < -10000000
      · have Hn : Hid (nr pz = false) := nr_no (.inl lpz)
        have tpz : decide (pz < -10000000) = true := decide_eq_true lpz
        refine wp_loop_rounds 4 ?_
        rw [rounds_succ]
        go_wp2
        rw [rounds_succ]
        go_wp2
        rw [rounds_succ]
        go_wp2
        go_ret
        exact ⟨ret_bool ((HX.out _ rfl).1 (nearP_no (.inr (.inr Hn.out)))).symm, HB2.out⟩
      by_cases gpz : 10000000 < pz
      · have Hn : Hid (nr pz = false) := nr_no (.inr gpz)
        have tpz : decide (pz < -10000000) = false := decide_eq_false lpz
        have spz : decide (10000000 < pz) = true := decide_eq_true gpz
        refine wp_loop_rounds 4 ?_
        rw [rounds_succ]
        go_wp2
        rw [rounds_succ]
        go_wp2
        rw [rounds_succ]
        go_wp2
        go_ret
        exact ⟨ret_bool ((HX.out _ rfl).1 (nearP_no (.inr (.inr Hn.out)))).symm, HB2.out⟩
      have Hpz : Hid (nr pz = true) := nr_yes (by omega) (by omega)
      have tpz : decide (pz < -10000000) = false := decide_eq_false lpz
      have spz : decide (10000000 < pz) = false := decide_eq_false gpz
      refine wp_loop_rounds 4 ?_
      rw [rounds_succ]
      go_wp2
      rw [rounds_succ]
      go_wp2
      rw [rounds_succ]
      go_wp2
      rw [rounds_succ]
      go_wp2
      go_roundw
      case rel => exact ⟨k + 1, by omega, by go_num, (HX.out _ rfl).2 (by simp [nearP, Hpx.out, Hpy.out, Hpz.out]), HB2.out⟩
      case measure => simp [intOf]; omega
    · go_wp2
      go_ret
      exact ⟨ret_bool (by symm; rw [List.all_eq_true]; intro p hp; exact HO.out p (by rw [List.take_of_length_le (by omega)]; exact hp)), HB.out⟩
end Go.Proofs.Ytiafcgbohckmmaa
