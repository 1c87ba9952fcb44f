/- ware.Middle walked. -/
import Derived.Test.YtjappkfhballhaaGreatChk
namespace Go.Proofs.YtjappkfhballhaaGreat
open Go.RowKit


theorem chk_in {a : Wr} (h : chk a = 0) : lab a.name = true ∧ inR 1 3 a.kind = true ∧ inR 1 16 a.rows = true ∧ inR 1 24 a.cols = true ∧ rangeOk a = true ∧ roomOk a = true := by
  unfold chk at h
  split at h
  · rename_i h1
    split at h
    · rename_i h2
      split at h
      · rename_i h3
        split at h
        · rename_i h4
          split at h
          · rename_i h5
            exact ⟨h1, h2, h3.1, h3.2, h4, h5⟩
          · omega
        · omega
      · omega
    · omega
  · omega
theorem chk_inR {a : Wr} (h : chk a = 0) : InR a := by
  have h := chk_in h
  exact inR_of h.2.2.1 h.2.2.2.1 h.2.2.2.2.1

set_option maxHeartbeats 3200000 in
theorem middle_err (a : Wr) (r c : Int) (w : World) (hs : a.name.size ≤ maxLen) (hn : chk a ≠ 0) :
    Calls Tryz.prog 93 #[wv a, .agg #[.int .i64 r, .int .i64 c]] w fun e w' => e = .returned (.tuple #[.agg #[.int .i64 0, .int .i64 0, .int .i64 0], .int .i64 (chk a)]) ∧ Below w.heap.size w w' := by
  have hne : (chk a != 0) = true := by simp [hn]
  go_enter Tryz.func93, Tryz.ntmps93
  go_wp2_with fail
  refine (check_any a _ hs).mono ?_
  rintro e w1 ⟨rfl, hb⟩
  have pc0 : w1.cell? ⟨w.heap.size + 1 + 1, 0, none⟩ = some (.int .i64 0) := cell_later hb (by go_simp)
  have pc1 : w1.cell? ⟨w.heap.size + 1 + 1, 1, none⟩ = some (.int .i64 0) := cell_later hb (by go_simp)
  have pc2 : w1.cell? ⟨w.heap.size + 1 + 1, 2, none⟩ = some (.int .i64 0) := cell_later hb (by go_simp)
  have pf0 : w1.frozen? ⟨w.heap.size + 1 + 1, 0, none⟩ = false := (hb.frozen (p := ⟨w.heap.size + 1 + 1, 0, none⟩) (by simp)).trans (by go_simp)
  have pf1 : w1.frozen? ⟨w.heap.size + 1 + 1, 1, none⟩ = false := (hb.frozen (p := ⟨w.heap.size + 1 + 1, 1, none⟩) (by simp)).trans (by go_simp)
  have pf2 : w1.frozen? ⟨w.heap.size + 1 + 1, 2, none⟩ = false := (hb.frozen (p := ⟨w.heap.size + 1 + 1, 2, none⟩) (by simp)).trans (by go_simp)
  have lt : w.heap.size + 1 + 1 < w1.heap.size := by have := hb.size; simp at this; omega
  have hB : Below w.heap.size w w1 := ((((Below.refl _ _).alloc (Nat.le_refl _) _).alloc (by simp) _).alloc (by simp; omega) _).trans (hb.mono (by simp; omega))
  go_wp2
  obtain ⟨x0, x1, x2⟩ := box3 pc0 pc1 pc2 (.int .i64 0) (.int .i64 0) (.int .i64 0)
  refine bodyPost_ret (v := .tuple #[.agg #[.int .i64 0, .int .i64 0, .int .i64 0], .int .i64 (chk a)]) (by simp [results, Tryz.results93, go_sem, pc0, pc1, pc2]) rfl ⟨rfl, ?_⟩
  exact ((hB.setCell (by show w.heap.size ≤ w.heap.size + 1 + 1; omega) _).setCell (by show w.heap.size ≤ w.heap.size + 1 + 1; omega) _).setCell (by show w.heap.size ≤ w.heap.size + 1 + 1; omega) _

set_option maxHeartbeats 6400000 in
theorem middle_out (a : Wr) (r c : Int) (w : World) (hs : a.name.size ≤ maxLen) (h0 : chk a = 0) (hsp : spotOk r c a.rows a.cols = false) :
    Calls Tryz.prog 93 #[wv a, .agg #[.int .i64 r, .int .i64 c]] w fun e w' => e = .returned (.tuple #[.agg #[.int .i64 0, .int .i64 0, .int .i64 0], .int .i64 2]) ∧ Below w.heap.size w w' := by
  have hin := chk_inR h0
  have HIN : Hid (InR a) := hin
  have HCH : Hid (chk a = 0) := h0
  obtain ⟨r1, r2, k1, k2, _, _, _, _, _, _, _, _, _, _, _, _, _, _⟩ := hin
  clear h0
  go_enter Tryz.func93, Tryz.ntmps93
  go_wp2_with fail
  refine (check_any a _ hs).mono ?_
  rintro e w1 ⟨rfl, hb⟩
  rw [HCH.out]
  have e0 : w1.cell? ⟨w.heap.size, 0, none⟩ = some (.string a.name) := cell_later hb (by go_simp)
  have e1 : w1.cell? ⟨w.heap.size, 1, none⟩ = some (.int .i64 a.kind) := cell_later hb (by go_simp)
  have e2 : w1.cell? ⟨w.heap.size, 2, none⟩ = some (.int .i64 a.rows) := cell_later hb (by go_simp)
  have e3 : w1.cell? ⟨w.heap.size, 3, none⟩ = some (.int .i64 a.cols) := cell_later hb (by go_simp)
  have e4 : w1.cell? ⟨w.heap.size, 4, none⟩ = some (.int .i64 a.x) := cell_later hb (by go_simp)
  have e5 : w1.cell? ⟨w.heap.size, 5, none⟩ = some (.int .i64 a.y) := cell_later hb (by go_simp)
  have e6 : w1.cell? ⟨w.heap.size, 6, none⟩ = some (.int .i64 a.pitch) := cell_later hb (by go_simp)
  have e7 : w1.cell? ⟨w.heap.size, 7, none⟩ = some (.int .i64 a.wid) := cell_later hb (by go_simp)
  have e8 : w1.cell? ⟨w.heap.size, 8, none⟩ = some (.int .i64 a.len) := cell_later hb (by go_simp)
  have e9 : w1.cell? ⟨w.heap.size, 9, none⟩ = some (.int .i64 a.hei) := cell_later hb (by go_simp)
  have e10 : w1.cell? ⟨w.heap.size, 10, none⟩ = some (.int .i64 a.deep) := cell_later hb (by go_simp)
  have e11 : w1.cell? ⟨w.heap.size, 11, none⟩ = some (.int .i64 a.cap) := cell_later hb (by go_simp)
  have s0 : w1.cell? ⟨w.heap.size + 1, 0, none⟩ = some (.int .i64 r) := cell_later hb (by go_simp)
  have s1 : w1.cell? ⟨w.heap.size + 1, 1, none⟩ = some (.int .i64 c) := cell_later hb (by go_simp)
  have pc0 : w1.cell? ⟨w.heap.size + 1 + 1, 0, none⟩ = some (.int .i64 0) := cell_later hb (by go_simp)
  have pc1 : w1.cell? ⟨w.heap.size + 1 + 1, 1, none⟩ = some (.int .i64 0) := cell_later hb (by go_simp)
  have pc2 : w1.cell? ⟨w.heap.size + 1 + 1, 2, none⟩ = some (.int .i64 0) := cell_later hb (by go_simp)
  have pf0 : w1.frozen? ⟨w.heap.size + 1 + 1, 0, none⟩ = false := (hb.frozen (p := ⟨w.heap.size + 1 + 1, 0, none⟩) (by simp)).trans (by go_simp)
  have pf1 : w1.frozen? ⟨w.heap.size + 1 + 1, 1, none⟩ = false := (hb.frozen (p := ⟨w.heap.size + 1 + 1, 1, none⟩) (by simp)).trans (by go_simp)
  have pf2 : w1.frozen? ⟨w.heap.size + 1 + 1, 2, none⟩ = false := (hb.frozen (p := ⟨w.heap.size + 1 + 1, 2, none⟩) (by simp)).trans (by go_simp)
  have lt : w.heap.size + 1 + 1 < w1.heap.size := by have := hb.size; simp at this; omega
  have hB : Below w.heap.size w w1 := ((((Below.refl _ _).alloc (Nat.le_refl _) _).alloc (by simp) _).alloc (by simp; omega) _).trans (hb.mono (by simp; omega))
  clear hb
  go_wp2_with fail
  refine (isSpot_any r c a.rows a.cols _ (by omega) (by omega) (by omega) (by omega)).mono ?_
  rintro e w2 ⟨rfl, hb2⟩
  rw [hsp]
  have qc0 : w2.cell? ⟨w.heap.size + 1 + 1, 0, none⟩ = some (.int .i64 0) := cell_later hb2 pc0
  have qc1 : w2.cell? ⟨w.heap.size + 1 + 1, 1, none⟩ = some (.int .i64 0) := cell_later hb2 pc1
  have qc2 : w2.cell? ⟨w.heap.size + 1 + 1, 2, none⟩ = some (.int .i64 0) := cell_later hb2 pc2
  have qf0 : w2.frozen? ⟨w.heap.size + 1 + 1, 0, none⟩ = false := (hb2.frozen (p := ⟨w.heap.size + 1 + 1, 0, none⟩) (by show w.heap.size + 1 + 1 < _; omega)).trans pf0
  have qf1 : w2.frozen? ⟨w.heap.size + 1 + 1, 1, none⟩ = false := (hb2.frozen (p := ⟨w.heap.size + 1 + 1, 1, none⟩) (by show w.heap.size + 1 + 1 < _; omega)).trans pf1
  have qf2 : w2.frozen? ⟨w.heap.size + 1 + 1, 2, none⟩ = false := (hb2.frozen (p := ⟨w.heap.size + 1 + 1, 2, none⟩) (by show w.heap.size + 1 + 1 < _; omega)).trans pf2
  have hB2 : Below w.heap.size w w2 := hB.trans (hb2.mono hB.size)
  have lt2 : w.heap.size + 1 + 1 < w2.heap.size := by have := hb2.size; omega
  go_wp2
  obtain ⟨x0, x1, x2⟩ := box3 qc0 qc1 qc2 (.int .i64 0) (.int .i64 0) (.int .i64 0)
  refine bodyPost_ret (v := .tuple #[.agg #[.int .i64 0, .int .i64 0, .int .i64 0], .int .i64 2]) (by simp [results, Tryz.results93, go_sem, qc0, qc1, qc2]) rfl ⟨rfl, ?_⟩
  exact ((hB2.setCell (by show w.heap.size ≤ w.heap.size + 1 + 1; omega) _).setCell (by show w.heap.size ≤ w.heap.size + 1 + 1; omega) _).setCell (by show w.heap.size ≤ w.heap.size + 1 + 1; omega) _

set_option maxHeartbeats 6400000 in
theorem middle_ok (a : Wr) (r c : Int) (w : World) (hs : a.name.size ≤ maxLen) (h0 : chk a = 0) (hsp : spotOk r c a.rows a.cols = true) :
    Calls Tryz.prog 93 #[wv a, .agg #[.int .i64 r, .int .i64 c]] w fun e w' => e = .returned (.tuple #[.agg #[.int .i64 (a.x + c * a.pitch), .int .i64 (a.y + r * a.pitch), .int .i64 (a.hei - a.deep)], .int .i64 0]) ∧ Below w.heap.size w w' := by
  have hin := chk_inR h0
  have HIN : Hid (InR a) := hin
  have HCH : Hid (chk a = 0) := h0
  obtain ⟨r1, r2, k1, k2, _, _, _, _, _, _, _, _, _, _, _, _, _, _⟩ := hin
  clear h0
  have hsp2 := spotOk_iff.1 hsp
  obtain ⟨⟨s0, s1⟩, s2, s3⟩ := hsp2
  have HM : Hid (∀ w : World, Calls Tryz.prog 111 #[wv a, .agg #[.int .i64 r, .int .i64 c]] w fun e w' => e = .returned (.agg #[.int .i64 (a.x + c * a.pitch), .int .i64 (a.y + r * a.pitch), .int .i64 (a.hei - a.deep)]) ∧ Below w.heap.size w w') := fun w => middle_any a r c w HIN.out (by omega) (by omega) (by omega) (by omega)
  go_enter Tryz.func93, Tryz.ntmps93
  go_wp2_with fail
  refine (check_any a _ hs).mono ?_
  rintro e w1 ⟨rfl, hb⟩
  rw [HCH.out]
  have e0 : w1.cell? ⟨w.heap.size, 0, none⟩ = some (.string a.name) := cell_later hb (by go_simp)
  have e1 : w1.cell? ⟨w.heap.size, 1, none⟩ = some (.int .i64 a.kind) := cell_later hb (by go_simp)
  have e2 : w1.cell? ⟨w.heap.size, 2, none⟩ = some (.int .i64 a.rows) := cell_later hb (by go_simp)
  have e3 : w1.cell? ⟨w.heap.size, 3, none⟩ = some (.int .i64 a.cols) := cell_later hb (by go_simp)
  have e4 : w1.cell? ⟨w.heap.size, 4, none⟩ = some (.int .i64 a.x) := cell_later hb (by go_simp)
  have e5 : w1.cell? ⟨w.heap.size, 5, none⟩ = some (.int .i64 a.y) := cell_later hb (by go_simp)
  have e6 : w1.cell? ⟨w.heap.size, 6, none⟩ = some (.int .i64 a.pitch) := cell_later hb (by go_simp)
  have e7 : w1.cell? ⟨w.heap.size, 7, none⟩ = some (.int .i64 a.wid) := cell_later hb (by go_simp)
  have e8 : w1.cell? ⟨w.heap.size, 8, none⟩ = some (.int .i64 a.len) := cell_later hb (by go_simp)
  have e9 : w1.cell? ⟨w.heap.size, 9, none⟩ = some (.int .i64 a.hei) := cell_later hb (by go_simp)
  have e10 : w1.cell? ⟨w.heap.size, 10, none⟩ = some (.int .i64 a.deep) := cell_later hb (by go_simp)
  have e11 : w1.cell? ⟨w.heap.size, 11, none⟩ = some (.int .i64 a.cap) := cell_later hb (by go_simp)
  have s0 : w1.cell? ⟨w.heap.size + 1, 0, none⟩ = some (.int .i64 r) := cell_later hb (by go_simp)
  have s1 : w1.cell? ⟨w.heap.size + 1, 1, none⟩ = some (.int .i64 c) := cell_later hb (by go_simp)
  have pc0 : w1.cell? ⟨w.heap.size + 1 + 1, 0, none⟩ = some (.int .i64 0) := cell_later hb (by go_simp)
  have pc1 : w1.cell? ⟨w.heap.size + 1 + 1, 1, none⟩ = some (.int .i64 0) := cell_later hb (by go_simp)
  have pc2 : w1.cell? ⟨w.heap.size + 1 + 1, 2, none⟩ = some (.int .i64 0) := cell_later hb (by go_simp)
  have pf0 : w1.frozen? ⟨w.heap.size + 1 + 1, 0, none⟩ = false := (hb.frozen (p := ⟨w.heap.size + 1 + 1, 0, none⟩) (by simp)).trans (by go_simp)
  have pf1 : w1.frozen? ⟨w.heap.size + 1 + 1, 1, none⟩ = false := (hb.frozen (p := ⟨w.heap.size + 1 + 1, 1, none⟩) (by simp)).trans (by go_simp)
  have pf2 : w1.frozen? ⟨w.heap.size + 1 + 1, 2, none⟩ = false := (hb.frozen (p := ⟨w.heap.size + 1 + 1, 2, none⟩) (by simp)).trans (by go_simp)
  have lt : w.heap.size + 1 + 1 < w1.heap.size := by have := hb.size; simp at this; omega
  have hB : Below w.heap.size w w1 := ((((Below.refl _ _).alloc (Nat.le_refl _) _).alloc (by simp) _).alloc (by simp; omega) _).trans (hb.mono (by simp; omega))
  clear hb
  go_wp2_with fail
  refine (isSpot_any r c a.rows a.cols _ (by omega) (by omega) (by omega) (by omega)).mono ?_
  rintro e w2 ⟨rfl, hb2⟩
  rw [hsp]
  have qc0 : w2.cell? ⟨w.heap.size + 1 + 1, 0, none⟩ = some (.int .i64 0) := cell_later hb2 pc0
  have qc1 : w2.cell? ⟨w.heap.size + 1 + 1, 1, none⟩ = some (.int .i64 0) := cell_later hb2 pc1
  have qc2 : w2.cell? ⟨w.heap.size + 1 + 1, 2, none⟩ = some (.int .i64 0) := cell_later hb2 pc2
  have qf0 : w2.frozen? ⟨w.heap.size + 1 + 1, 0, none⟩ = false := (hb2.frozen (p := ⟨w.heap.size + 1 + 1, 0, none⟩) (by show w.heap.size + 1 + 1 < _; omega)).trans pf0
  have qf1 : w2.frozen? ⟨w.heap.size + 1 + 1, 1, none⟩ = false := (hb2.frozen (p := ⟨w.heap.size + 1 + 1, 1, none⟩) (by show w.heap.size + 1 + 1 < _; omega)).trans pf1
  have qf2 : w2.frozen? ⟨w.heap.size + 1 + 1, 2, none⟩ = false := (hb2.frozen (p := ⟨w.heap.size + 1 + 1, 2, none⟩) (by show w.heap.size + 1 + 1 < _; omega)).trans pf2
  have hB2 : Below w.heap.size w w2 := hB.trans (hb2.mono hB.size)
  have lt2 : w.heap.size + 1 + 1 < w2.heap.size := by have := hb2.size; omega
  have g0 : w2.cell? ⟨w.heap.size, 0, none⟩ = some (.string a.name) := cell_later hb2 e0
  have g1 : w2.cell? ⟨w.heap.size, 1, none⟩ = some (.int .i64 a.kind) := cell_later hb2 e1
  have g2 : w2.cell? ⟨w.heap.size, 2, none⟩ = some (.int .i64 a.rows) := cell_later hb2 e2
  have g3 : w2.cell? ⟨w.heap.size, 3, none⟩ = some (.int .i64 a.cols) := cell_later hb2 e3
  have g4 : w2.cell? ⟨w.heap.size, 4, none⟩ = some (.int .i64 a.x) := cell_later hb2 e4
  have g5 : w2.cell? ⟨w.heap.size, 5, none⟩ = some (.int .i64 a.y) := cell_later hb2 e5
  have g6 : w2.cell? ⟨w.heap.size, 6, none⟩ = some (.int .i64 a.pitch) := cell_later hb2 e6
  have g7 : w2.cell? ⟨w.heap.size, 7, none⟩ = some (.int .i64 a.wid) := cell_later hb2 e7
  have g8 : w2.cell? ⟨w.heap.size, 8, none⟩ = some (.int .i64 a.len) := cell_later hb2 e8
  have g9 : w2.cell? ⟨w.heap.size, 9, none⟩ = some (.int .i64 a.hei) := cell_later hb2 e9
  have g10 : w2.cell? ⟨w.heap.size, 10, none⟩ = some (.int .i64 a.deep) := cell_later hb2 e10
  have g11 : w2.cell? ⟨w.heap.size, 11, none⟩ = some (.int .i64 a.cap) := cell_later hb2 e11
  have u0 : w2.cell? ⟨w.heap.size + 1, 0, none⟩ = some (.int .i64 r) := cell_later hb2 s0
  have u1 : w2.cell? ⟨w.heap.size + 1, 1, none⟩ = some (.int .i64 c) := cell_later hb2 s1
  go_wp2_with fail
  refine (HM.out _).mono ?_
  rintro e w3 ⟨rfl, hb3⟩
  have vc0 : w3.cell? ⟨w.heap.size + 1 + 1, 0, none⟩ = some (.int .i64 0) := cell_later hb3 qc0
  have vc1 : w3.cell? ⟨w.heap.size + 1 + 1, 1, none⟩ = some (.int .i64 0) := cell_later hb3 qc1
  have vc2 : w3.cell? ⟨w.heap.size + 1 + 1, 2, none⟩ = some (.int .i64 0) := cell_later hb3 qc2
  have vf0 : w3.frozen? ⟨w.heap.size + 1 + 1, 0, none⟩ = false := (hb3.frozen (p := ⟨w.heap.size + 1 + 1, 0, none⟩) (by show w.heap.size + 1 + 1 < _; omega)).trans qf0
  have vf1 : w3.frozen? ⟨w.heap.size + 1 + 1, 1, none⟩ = false := (hb3.frozen (p := ⟨w.heap.size + 1 + 1, 1, none⟩) (by show w.heap.size + 1 + 1 < _; omega)).trans qf1
  have vf2 : w3.frozen? ⟨w.heap.size + 1 + 1, 2, none⟩ = false := (hb3.frozen (p := ⟨w.heap.size + 1 + 1, 2, none⟩) (by show w.heap.size + 1 + 1 < _; omega)).trans qf2
  have hB3 : Below w.heap.size w w3 := hB2.trans (hb3.mono hB2.size)
  have lt3 : w.heap.size + 1 + 1 < w3.heap.size := by have := hb3.size; omega
  go_wp2
  obtain ⟨x0, x1, x2⟩ := box3 vc0 vc1 vc2 (.int .i64 (a.x + c * a.pitch)) (.int .i64 (a.y + r * a.pitch)) (.int .i64 (a.hei - a.deep))
  refine bodyPost_ret (v := .tuple #[.agg #[.int .i64 (a.x + c * a.pitch), .int .i64 (a.y + r * a.pitch), .int .i64 (a.hei - a.deep)], .int .i64 0]) (by simp [results, Tryz.results93, go_sem, vc0, vc1, vc2]) rfl ⟨rfl, ?_⟩
  exact ((hB3.setCell (by show w.heap.size ≤ w.heap.size + 1 + 1; omega) _).setCell (by show w.heap.size ≤ w.heap.size + 1 + 1; omega) _).setCell (by show w.heap.size ≤ w.heap.size + 1 + 1; omega) _


end Go.Proofs.YtjappkfhballhaaGreat
