/- sameFluid, sameWells, sameState walked, where both are the same. -/
import Derived.Test.YtfadmpnpgiceeaaGreatGq
namespace Go.Proofs.YtfadmpnpgiceeaaGreat
open Go.RowKit Go.Maps

theorem pl_neq (W : World) (p : Plc) : (binOp .neq 31 (.agg #[.int .i64 p.1, .int .i64 p.2.1, .int .i64 p.2.2]) (.agg #[.int .i64 p.1, .int .i64 p.2.1, .int .i64 p.2.2])).run Tryz.prog W = .ok (.bool false) W := by go_simp
set_option maxHeartbeats 1600000 in
theorem sameFluid_same (ao ao' : Option Addr) (cap cap' : Nat) (ps : List F.Pc) (w : World) (h : F.Fl w ao ps) (h' : F.Fl w ao' ps) (hl : ps.length ≤ 100) :
    Calls Tryz.prog 58 #[.slice ao ps.length cap, .slice ao' ps.length cap'] w fun e w' => e = .returned (.bool true) ∧ Below w.heap.size w w' := by
  have HF : Hid (F.Fl w ao ps) := h
  have HF' : Hid (F.Fl w ao' ps) := h'
  clear h h'
  go_enter Tryz.func58, Tryz.ntmps58
  go_wp2
  go_loopw [5] (fun i wr => ∃ k : Nat, k ≤ ps.length ∧ i = .int .i64 k ∧ ∃ n, wr = w.drewN n) (fun i _ => ps.length - (intOf i).toNat)
  case atStart => exact ⟨0, Nat.zero_le _, rfl, 0, rfl⟩
  case round =>
    obtain ⟨k, hk, rfl, n, rfl⟩ := hrel
    by_cases hlt : k < ps.length
    · obtain ⟨b, off, rfl, hb, c0, c1, _⟩ := HF.out.at hlt
      obtain ⟨b', off', rfl, hb', c0', c1', _⟩ := HF'.out.at hlt
      generalize ps[k]'hlt = p at *
      obtain ⟨l1, v1⟩ := p
      simp only at c0 c1 c0' c1'
      have hpn := fun W => pc_neq W l1 l1 v1 v1
      simp only [decide_true, Bool.not_true] at hpn
      have hki : (k : Int) < (ps.length : Int) := by omega
      go_wp2
      go_big_quiet (fail)
      go_wp2
      go_roundw
      case rel => exact ⟨k + 1, by omega, by go_num, n + nq, by simp⟩
      case measure => simp [intOf]; omega
    · go_wp2
      go_ret
      exact ⟨rfl, blw_drewN (Below.refl _ _) _⟩
def swV (A B bx ox bs os k n cx cs : Nat) (p : Plc) (f : List F.Pc) (aox aos : Option Addr) (capx caps : Nat) (d : Nat) (v : Value) (_ : World) : Prop :=
  match d with
  | 20 => v = .pointer (some ⟨A, 0, none⟩)
  | 21 => v = .slice (some ⟨bx, ox, none⟩) n cx
  | 22 => v = .int .i64 (k : Int)
  | 23 => v = .pointer (some ⟨bx, ox + k * 4, none⟩)
  | 24 => v = .pointer (some ⟨bx, ox + k * 4, none⟩)
  | 25 => v = .agg #[.int .i64 p.1, .int .i64 p.2.1, .int .i64 p.2.2]
  | 26 => v = .pointer (some ⟨B, 0, none⟩)
  | 27 => v = .slice (some ⟨bs, os, none⟩) n cs
  | 28 => v = .int .i64 (k : Int)
  | 29 => v = .pointer (some ⟨bs, os + k * 4, none⟩)
  | 30 => v = .pointer (some ⟨bs, os + k * 4, none⟩)
  | 31 => v = .agg #[.int .i64 p.1, .int .i64 p.2.1, .int .i64 p.2.2]
  | 32 => v = .bool false
  | 33 => v = .bool false
  | 34 => v = .pointer (some ⟨A, 0, none⟩)
  | 35 => v = .slice (some ⟨bx, ox, none⟩) n cx
  | 36 => v = .int .i64 (k : Int)
  | 37 => v = .pointer (some ⟨bx, ox + k * 4, none⟩)
  | 38 => v = .pointer (some ⟨bx, ox + k * 4 + 3, none⟩)
  | 39 => v = .slice aox f.length capx
  | 40 => v = .pointer (some ⟨B, 0, none⟩)
  | 41 => v = .slice (some ⟨bs, os, none⟩) n cs
  | 42 => v = .int .i64 (k : Int)
  | 43 => v = .pointer (some ⟨bs, os + k * 4, none⟩)
  | 44 => v = .pointer (some ⟨bs, os + k * 4 + 3, none⟩)
  | 45 => v = .slice aos f.length caps
  | 46 => v = .bool true
  | 47 => v = .bool false
  | 48 => v = .bool false
  | _ => True
theorem swV_mono (A B bx ox bs os k n cx cs : Nat) (p : Plc) (f : List F.Pc) (aox aos : Option Addr) (capx caps : Nat) (d : Nat) (v : Value) (w w' : World) (h : swV A B bx ox bs os k n cx cs p f aox aos capx caps d v w) (_ : Below w.heap.size w w') : swV A B bx ox bs os k n cx cs p f aox aos capx caps d v w' := h
set_option maxHeartbeats 3200000 in
set_option maxRecDepth 100000 in
theorem sameWells_same (x s : Sm) (w : World) (hX : SmIn w x) (hS : SmIn w s) (hst : whp x.wl = whp s.wl) (hl : s.wl.length ≤ 4608) (hf : ∀ y ∈ s.wl, y.2.2.2.length ≤ 100) :
    Calls Tryz.prog 59 #[smv x, smv s] w fun e w' => e = .returned (.bool true) ∧ Below w.heap.size w w' := by
  obtain ⟨w0, hw0⟩ : ∃ w0, w0 = (w.alloc (smo x)).alloc (smo s) := ⟨_, rfl⟩
  have b0 : Below w.heap.size w w0 := by rw [hw0]; exact ((Below.refl _ _).alloc (Nat.le_refl _) _).alloc (by simp) _
  have KX0 : Hid (Bk w.heap.size (sml x) w0) := by show Bk _ _ _; rw [hw0]; exact (Bk.new w (sml x) 27 w.heap.size rfl).later ((Below.refl _ _).alloc (Nat.le_refl _) _)
  have KS0 : Hid (Bk (w.heap.size + 1) (sml s) w0) := by show Bk _ _ _; rw [hw0]; exact Bk.new _ (sml s) 27 (w.heap.size + 1) (by simp)
  have HX : Hid (SmIn w0 x) := hX.next b0
  have HS : Hid (SmIn w0 s) := hS.next b0
  have HB0 : Hid (Below w.heap.size w w0) := b0
  have HW0 : Hid (w0 = _) := hw0
  have hlen : x.wl.length = s.wl.length := by have := congrArg List.length hst; rw [whp_length, whp_length] at this; exact this
  have HLE : Hid (x.wl.length = s.wl.length) := hlen
  have HEQ : Hid (∀ k (h : k < s.wl.length) (hz : k < x.wl.length), ((x.wl[k]'hz).1, (x.wl[k]'hz).2.2.2) = ((s.wl[k]'h).1, (s.wl[k]'h).2.2.2)) := fun k h hz => by
    have h1 := whp_at (l := x.wl) (k := k) hz
    have h2 := whp_at (l := s.wl) (k := k) h
    have : (whp x.wl)[k]'(by rw [whp_length]; exact hz) = (whp s.wl)[k]'(by rw [whp_length]; exact h) := by simp only [hst]
    rw [h1, h2] at this
    exact this
  have HFL : Hid (∀ y ∈ s.wl, y.2.2.2.length ≤ 100) := hf
  have hne : ((x.wl.length : Int) != (s.wl.length : Int)) = false := by simp [hlen]
  clear hX hS hst hw0 b0 hlen hf
  go_enter Tryz.func59, Tryz.ntmps59
  go_wp2_with fail
  rw [← HW0.out]
  go_loopw [5] (fun i wr => ∃ k : Nat, k ≤ s.wl.length ∧ i = .int .i64 k ∧ Below w0.heap.size w0 wr) (fun i _ => s.wl.length - (intOf i).toNat)
  case atStart => exact ⟨0, Nat.zero_le _, rfl, Below.refl _ _⟩
  case round =>
    obtain ⟨k, hk, rfl, hb⟩ := hrel
    have HB : Hid (Below w0.heap.size w0 wr) := hb
    have KX : Hid (Bk w.heap.size [.slice x.aoW s.wl.length x.capW, .bool x.tip, .slice x.aoH x.held.length x.capH, .slice x.aoT x.touched.length x.capT, .int .i64 x.used, .int .i64 x.heat, .int .i64 x.clock] wr) := by
      have := KX0.out.later hb
      simp only [sml] at this
      rw [HLE.out] at this
      exact this
    have KS : Hid (Bk (w.heap.size + 1) (sml s) wr) := KS0.out.later hb
    have HX1 : Hid (SmIn wr x) := HX.out.next hb
    have HS1 : Hid (SmIn wr s) := HS.out.next hb
    clear hb
    have x0 := KX.out.c 0 rfl
    by_cases hlt : k < s.wl.length
    rotate_left
    · go_wp2
      go_ret
      exact ⟨rfl, HB0.out.trans (HB.out.mono HB0.out.size)⟩
    · have hltx : k < x.wl.length := by rw [HLE.out]; exact hlt
      obtain ⟨bx, ox, hax, hcx⟩ := HX1.out.wells.at hltx
      obtain ⟨bs, os, has, hcs⟩ := HS1.out.wells.at hlt
      have heq := HEQ.out k hlt hltx
      have hfl := HFL.out _ (List.getElem_mem hlt)
      generalize x.wl[k]'hltx = yx at *
      generalize s.wl[k]'hlt = ys at *
      obtain ⟨p, aox, capx, f⟩ := yx
      obtain ⟨p', aos, caps, f'⟩ := ys
      simp only [Prod.mk.injEq] at heq
      obtain ⟨rfl, rfl⟩ := heq
      obtain ⟨_, c0, c1, c2, c3, hfx⟩ := hcx
      obtain ⟨_, e0, e1, e2, e3, hfs⟩ := hcs
      simp only at c0 c1 c2 c3 e0 e1 e2 e3 hfx hfs hfl
      have HSF : Hid (∀ W, Below wr.heap.size wr W → Calls Tryz.prog 58 #[.slice aox f.length capx, .slice aos f.length caps] W fun e w' => e = .returned (.bool true) ∧ Below W.heap.size W w') := fun W hW => sameFluid_same aox aos capx caps f W (F.Fl.next hfx hW) (F.Fl.next hfs hW) hfl
      have KXa : Hid (Bk w.heap.size [.slice (some ⟨bx, ox, none⟩) s.wl.length x.capW, .bool x.tip, .slice x.aoH x.held.length x.capH, .slice x.aoT x.touched.length x.capT, .int .i64 x.used, .int .i64 x.heat, .int .i64 x.clock] wr) := by show Bk _ _ _; rw [← hax]; exact KX.out
      have KSa : Hid (Bk (w.heap.size + 1) [.slice (some ⟨bs, os, none⟩) s.wl.length s.capW, .bool s.tip, .slice s.aoH s.held.length s.capH, .slice s.aoT s.touched.length s.capT, .int .i64 s.used, .int .i64 s.heat, .int .i64 s.clock] wr) := by show Bk _ _ _; rw [← has]; exact KS.out
      have hki : (k : Int) < (s.wl.length : Int) := by omega
      clear hax has hfx hfs hltx
      go_wp2_with fail
      rename_i KK hkk
      have HKK := (show Hid _ from hkk)
      clear hkk
      clear KX KS
      have KX := KXa
      have KS := KSa
      refine region_inv [false, false, false, false, false, false, false, false, false, false, false, false, false, false, false, false, false, false, false, false, true, true, true, true, true, true, true, true, true, true, true, true, true, true, true, true, true, true, true, true, true, true, true, true, true, true, true, true, true]
        [(20, [], none), (21, [20], none), (22, [], none), (23, [21, 22], none), (24, [23], none), (25, [24], none), (26, [], none), (27, [26], none), (28, [], none), (29, [27, 28], none), (30, [29], none), (31, [30], none), (32, [25, 31], none), (33, [32], none), (34, [33], some (33, false)), (35, [33, 34], some (33, false)), (36, [33], some (33, false)), (37, [33, 35, 36], some (33, false)), (38, [33, 37], some (33, false)), (39, [33, 38], some (33, false)), (40, [33], some (33, false)), (41, [33, 40], some (33, false)), (42, [33], some (33, false)), (43, [33, 41, 42], some (33, false)), (44, [33, 43], some (33, false)), (45, [33, 44], some (33, false)), (46, [33, 39, 45], some (33, false)), (47, [33, 46], some (33, false)), (48, [33, 47], none)]
        (swV w.heap.size (w.heap.size + 1) bx ox bs os k s.wl.length x.capW s.capW p f aox aos capx caps) (by kernel_rfl) (by kernel_rfl) (swV_mono w.heap.size (w.heap.size + 1) bx ox bs os k s.wl.length x.capW s.capW p f aox aos capx caps) ?_ ?_
      · refine ⟨?_, ?_, ?_, ?_, ?_, ?_, ?_, ?_, ?_, ?_, ?_, ?_, ?_, ?_, ?_, ?_, ?_, ?_, ?_, ?_, ?_, ?_, ?_, ?_, ?_, ?_, ?_, ?_, ?_, trivial⟩
        · intro f wA hb _ K hK
          simp only [over, overL, Nat.reduceAdd]
          go_simp
          exact hK _ _ ⟨_, rfl, by simp only [over, overL, Nat.reduceAdd]; rfl, Below.refl _ _⟩
        · intro f wA hb ⟨h20, _⟩ K hK
          replace h20 : f 20 = _ := h20
          have q0 := (KX.out.later hb).c 0 rfl
          simp only [over, overL, Nat.reduceAdd, h20]
          go_simp
          exact hK _ _ ⟨_, rfl, by simp only [over, overL, Nat.reduceAdd, h20]; rfl, Below.refl _ _⟩
        · intro f wA hb _ K hK
          simp only [over, overL, Nat.reduceAdd]
          go_simp
          exact hK _ _ ⟨_, rfl, by simp only [over, overL, Nat.reduceAdd]; rfl, Below.refl _ _⟩
        · intro f wA hb ⟨h21, h22, _⟩ K hK
          replace h21 : f 21 = _ := h21
          replace h22 : f 22 = _ := h22
          simp only [over, overL, Nat.reduceAdd, h21, h22]
          go_simp
          exact hK _ _ ⟨_, rfl, by simp only [over, overL, Nat.reduceAdd, h21, h22]; rfl, Below.refl _ _⟩
        · intro f wA hb ⟨h23, _⟩ K hK
          replace h23 : f 23 = _ := h23
          simp only [over, overL, Nat.reduceAdd, h23]
          go_simp
          exact hK _ _ ⟨_, rfl, by simp only [over, overL, Nat.reduceAdd, h23]; rfl, Below.refl _ _⟩
        · intro f wA hb ⟨h24, _⟩ K hK
          replace h24 : f 24 = _ := h24
          have q0 := cell_later hb c0
          have q1 := cell_later hb c1
          have q2 := cell_later hb c2
          simp only [over, overL, Nat.reduceAdd, h24]
          go_simp
          exact hK _ _ ⟨_, rfl, by simp only [over, overL, Nat.reduceAdd, h24]; rfl, Below.refl _ _⟩
        · intro f wA hb _ K hK
          simp only [over, overL, Nat.reduceAdd]
          go_simp
          exact hK _ _ ⟨_, rfl, by simp only [over, overL, Nat.reduceAdd]; rfl, Below.refl _ _⟩
        · intro f wA hb ⟨h26, _⟩ K hK
          replace h26 : f 26 = _ := h26
          have q0 := (KS.out.later hb).c 0 rfl
          simp only [over, overL, Nat.reduceAdd, h26]
          go_simp
          exact hK _ _ ⟨_, rfl, by simp only [over, overL, Nat.reduceAdd, h26]; rfl, Below.refl _ _⟩
        · intro f wA hb _ K hK
          simp only [over, overL, Nat.reduceAdd]
          go_simp
          exact hK _ _ ⟨_, rfl, by simp only [over, overL, Nat.reduceAdd]; rfl, Below.refl _ _⟩
        · intro f wA hb ⟨h27, h28, _⟩ K hK
          replace h27 : f 27 = _ := h27
          replace h28 : f 28 = _ := h28
          simp only [over, overL, Nat.reduceAdd, h27, h28]
          go_simp
          exact hK _ _ ⟨_, rfl, by simp only [over, overL, Nat.reduceAdd, h27, h28]; rfl, Below.refl _ _⟩
        · intro f wA hb ⟨h29, _⟩ K hK
          replace h29 : f 29 = _ := h29
          simp only [over, overL, Nat.reduceAdd, h29]
          go_simp
          exact hK _ _ ⟨_, rfl, by simp only [over, overL, Nat.reduceAdd, h29]; rfl, Below.refl _ _⟩
        · intro f wA hb ⟨h30, _⟩ K hK
          replace h30 : f 30 = _ := h30
          have q0 := cell_later hb e0
          have q1 := cell_later hb e1
          have q2 := cell_later hb e2
          simp only [over, overL, Nat.reduceAdd, h30]
          go_simp
          exact hK _ _ ⟨_, rfl, by simp only [over, overL, Nat.reduceAdd, h30]; rfl, Below.refl _ _⟩
        · intro f wA hb ⟨h25, h31, _⟩ K hK
          replace h25 : f 25 = _ := h25
          replace h31 : f 31 = _ := h31
          have hpl := pl_neq wA p
          simp only [over, overL, Nat.reduceAdd, h25, h31]
          go_simp
          exact hK _ _ ⟨_, rfl, by simp only [over, overL, Nat.reduceAdd, h25, h31]; rfl, Below.refl _ _⟩
        · intro f wA hb ⟨h32, _⟩ K hK
          replace h32 : f 32 = _ := h32
          simp only [over, overL, Nat.reduceAdd, h32]
          go_simp
          exact hK _ _ ⟨_, rfl, by simp only [over, overL, Nat.reduceAdd, h32]; rfl, Below.refl _ _⟩
        · intro f wA hb ⟨h33, _⟩
          replace h33 : f 33 = _ := h33
          refine ⟨fun _ => ?_, fun hg => absurd h33 hg⟩
          intro K hK
          simp only [over, overL, Nat.reduceAdd, h33]
          go_simp
          exact hK _ _ ⟨_, rfl, by simp only [over, overL, Nat.reduceAdd, h33]; rfl, Below.refl _ _⟩
        · intro f wA hb ⟨h33, h34, _⟩
          replace h33 : f 33 = _ := h33
          replace h34 : f 34 = _ := h34
          refine ⟨fun _ => ?_, fun hg => absurd h33 hg⟩
          intro K hK
          have q0 := (KX.out.later hb).c 0 rfl
          simp only [over, overL, Nat.reduceAdd, h33, h34]
          go_simp
          exact hK _ _ ⟨_, rfl, by simp only [over, overL, Nat.reduceAdd, h33, h34]; rfl, Below.refl _ _⟩
        · intro f wA hb ⟨h33, _⟩
          replace h33 : f 33 = _ := h33
          refine ⟨fun _ => ?_, fun hg => absurd h33 hg⟩
          intro K hK
          simp only [over, overL, Nat.reduceAdd, h33]
          go_simp
          exact hK _ _ ⟨_, rfl, by simp only [over, overL, Nat.reduceAdd, h33]; rfl, Below.refl _ _⟩
        · intro f wA hb ⟨h33, h35, h36, _⟩
          replace h33 : f 33 = _ := h33
          replace h35 : f 35 = _ := h35
          replace h36 : f 36 = _ := h36
          refine ⟨fun _ => ?_, fun hg => absurd h33 hg⟩
          intro K hK
          simp only [over, overL, Nat.reduceAdd, h33, h35, h36]
          go_simp
          exact hK _ _ ⟨_, rfl, by simp only [over, overL, Nat.reduceAdd, h33, h35, h36]; rfl, Below.refl _ _⟩
        · intro f wA hb ⟨h33, h37, _⟩
          replace h33 : f 33 = _ := h33
          replace h37 : f 37 = _ := h37
          refine ⟨fun _ => ?_, fun hg => absurd h33 hg⟩
          intro K hK
          simp only [over, overL, Nat.reduceAdd, h33, h37]
          go_simp
          exact hK _ _ ⟨_, rfl, by simp only [over, overL, Nat.reduceAdd, h33, h37]; rfl, Below.refl _ _⟩
        · intro f wA hb ⟨h33, h38, _⟩
          replace h33 : f 33 = _ := h33
          replace h38 : f 38 = _ := h38
          refine ⟨fun _ => ?_, fun hg => absurd h33 hg⟩
          intro K hK
          have q3 := cell_later hb c3
          simp only [over, overL, Nat.reduceAdd, h33, h38]
          go_simp
          exact hK _ _ ⟨_, rfl, by simp only [over, overL, Nat.reduceAdd, h33, h38]; rfl, Below.refl _ _⟩
        · intro f wA hb ⟨h33, _⟩
          replace h33 : f 33 = _ := h33
          refine ⟨fun _ => ?_, fun hg => absurd h33 hg⟩
          intro K hK
          simp only [over, overL, Nat.reduceAdd, h33]
          go_simp
          exact hK _ _ ⟨_, rfl, by simp only [over, overL, Nat.reduceAdd, h33]; rfl, Below.refl _ _⟩
        · intro f wA hb ⟨h33, h40, _⟩
          replace h33 : f 33 = _ := h33
          replace h40 : f 40 = _ := h40
          refine ⟨fun _ => ?_, fun hg => absurd h33 hg⟩
          intro K hK
          have q0 := (KS.out.later hb).c 0 rfl
          simp only [over, overL, Nat.reduceAdd, h33, h40]
          go_simp
          exact hK _ _ ⟨_, rfl, by simp only [over, overL, Nat.reduceAdd, h33, h40]; rfl, Below.refl _ _⟩
        · intro f wA hb ⟨h33, _⟩
          replace h33 : f 33 = _ := h33
          refine ⟨fun _ => ?_, fun hg => absurd h33 hg⟩
          intro K hK
          simp only [over, overL, Nat.reduceAdd, h33]
          go_simp
          exact hK _ _ ⟨_, rfl, by simp only [over, overL, Nat.reduceAdd, h33]; rfl, Below.refl _ _⟩
        · intro f wA hb ⟨h33, h41, h42, _⟩
          replace h33 : f 33 = _ := h33
          replace h41 : f 41 = _ := h41
          replace h42 : f 42 = _ := h42
          refine ⟨fun _ => ?_, fun hg => absurd h33 hg⟩
          intro K hK
          simp only [over, overL, Nat.reduceAdd, h33, h41, h42]
          go_simp
          exact hK _ _ ⟨_, rfl, by simp only [over, overL, Nat.reduceAdd, h33, h41, h42]; rfl, Below.refl _ _⟩
        · intro f wA hb ⟨h33, h43, _⟩
          replace h33 : f 33 = _ := h33
          replace h43 : f 43 = _ := h43
          refine ⟨fun _ => ?_, fun hg => absurd h33 hg⟩
          intro K hK
          simp only [over, overL, Nat.reduceAdd, h33, h43]
          go_simp
          exact hK _ _ ⟨_, rfl, by simp only [over, overL, Nat.reduceAdd, h33, h43]; rfl, Below.refl _ _⟩
        · intro f wA hb ⟨h33, h44, _⟩
          replace h33 : f 33 = _ := h33
          replace h44 : f 44 = _ := h44
          refine ⟨fun _ => ?_, fun hg => absurd h33 hg⟩
          intro K hK
          have q3 := cell_later hb e3
          simp only [over, overL, Nat.reduceAdd, h33, h44]
          go_simp
          exact hK _ _ ⟨_, rfl, by simp only [over, overL, Nat.reduceAdd, h33, h44]; rfl, Below.refl _ _⟩
        · intro f wA hb ⟨h33, h39, h45, _⟩
          replace h33 : f 33 = _ := h33
          replace h39 : f 39 = _ := h39
          replace h45 : f 45 = _ := h45
          refine ⟨fun _ => ?_, fun hg => absurd h33 hg⟩
          intro K hK
          simp only [over, overL, Nat.reduceAdd, h33, h39, h45]
          go_simp
          refine ((HSF.out wA hb).mono) ?_
          rintro e w2 ⟨rfl, hb2⟩
          exact hK _ _ ⟨_, rfl, by simp only [over, overL, Nat.reduceAdd, h33, h39, h45]; rfl, hb2⟩
        · intro f wA hb ⟨h33, h46, _⟩
          replace h33 : f 33 = _ := h33
          replace h46 : f 46 = _ := h46
          refine ⟨fun _ => ?_, fun hg => absurd h33 hg⟩
          intro K hK
          simp only [over, overL, Nat.reduceAdd, h33, h46]
          go_simp
          exact hK _ _ ⟨_, rfl, by simp only [over, overL, Nat.reduceAdd, h33, h46]; rfl, Below.refl _ _⟩
        · intro f wA hb ⟨h33, h47, _⟩ K hK
          replace h33 : f 33 = _ := h33
          replace h47 : f 47 = _ := h47
          simp only [over, overL, Nat.reduceAdd, h33, h47]
          go_simp
          exact hK _ _ ⟨_, rfl, by simp only [over, overL, Nat.reduceAdd, h33, h47]; rfl, Below.refl _ _⟩
      intro f' w3 hb hv
      have h48 : f' 48 = _ := hv.2.2.2.2.2.2.2.2.2.2.2.2.2.2.2.2.2.2.2.2.2.2.2.2.2.2.2.2.1
      have HB3 : Hid (Below w0.heap.size w0 w3) := HB.out.trans (hb.mono HB.out.size)
      clear hv hb
      simp only [over, overL, Nat.reduceAdd, h48]
      clear h48
      refine HKK.out _ _ ?_
      go_wp2
      go_roundw
      case rel => exact ⟨k + 1, by omega, by go_num, HB3.out⟩
      case measure => simp [intOf]; omega
set_option maxHeartbeats 3200000 in
set_option maxRecDepth 100000 in
theorem sameState_same (x s : Sm) (w : World) (hX : SmIn w x) (hS : SmIn w s) (hst : x.st = s.st) (hl : s.wl.length ≤ 4608) (hf : ∀ y ∈ s.wl, y.2.2.2.length ≤ 100) (hh : s.held.length ≤ 100) (ht : s.touched.length ≤ 100) :
    Calls Tryz.prog 22 #[smv x, smv s] w fun e w' => e = .returned (.bool true) ∧ Below w.heap.size w w' := by
  obtain ⟨aoW, capW, wl, tip, aoH, capH, held, aoT, capT, touched, used, heat, clock⟩ := x
  have e1 : whp wl = whp s.wl := congrArg Sta.wells hst
  have e2 : tip = s.tip := congrArg Sta.tip hst
  have e3 : held = s.held := congrArg Sta.held hst
  have e4 : touched = s.touched := congrArg Sta.touched hst
  have e5 : used = s.used := congrArg Sta.used hst
  have e6 : heat = s.heat := congrArg Sta.heat hst
  have e7 : clock = s.clock := congrArg Sta.clock hst
  subst e2 e3 e4 e5 e6 e7
  have HE1 : Hid (whp wl = whp s.wl) := e1
  have hlen : wl.length = s.wl.length := by have := congrArg List.length e1; rw [whp_length, whp_length] at this; exact this
  obtain ⟨x, hx⟩ : ∃ x : Sm, x = ⟨aoW, capW, wl, s.tip, aoH, capH, s.held, aoT, capT, s.touched, s.used, s.heat, s.clock⟩ := ⟨_, rfl⟩
  obtain ⟨w0, hw0⟩ : ∃ w0, w0 = (w.alloc (smo ⟨aoW, capW, wl, s.tip, aoH, capH, s.held, aoT, capT, s.touched, s.used, s.heat, s.clock⟩)).alloc (smo s) := ⟨_, rfl⟩
  have b0 : Below w.heap.size w w0 := by rw [hw0]; exact ((Below.refl _ _).alloc (Nat.le_refl _) _).alloc (by simp) _
  have KX0 : Hid (Bk w.heap.size [.slice aoW wl.length capW, .bool s.tip, .slice aoH s.held.length capH, .slice aoT s.touched.length capT, .int .i64 s.used, .int .i64 s.heat, .int .i64 s.clock] w0) := by show Bk _ _ _; rw [hw0]; exact (Bk.new w _ 27 w.heap.size rfl).later ((Below.refl _ _).alloc (Nat.le_refl _) _)
  have KS0 : Hid (Bk (w.heap.size + 1) (sml s) w0) := by show Bk _ _ _; rw [hw0]; exact Bk.new _ (sml s) 27 (w.heap.size + 1) (by simp)
  have HX : Hid (SmIn w0 ⟨aoW, capW, wl, s.tip, aoH, capH, s.held, aoT, capT, s.touched, s.used, s.heat, s.clock⟩) := hX.next b0
  have HS : Hid (SmIn w0 s) := hS.next b0
  have HB0 : Hid (Below w.heap.size w w0) := b0
  have HW0 : Hid (w0 = _) := hw0
  have HL : Hid (s.wl.length ≤ 4608) := hl
  have HFL : Hid (∀ y ∈ s.wl, y.2.2.2.length ≤ 100) := hf
  have HHL : Hid (s.held.length ≤ 100) := hh
  have hne : ((wl.length : Int) != (s.wl.length : Int)) = false := by simp [hlen]
  clear hX hS hst e1 hw0 b0 hlen hf hl hh hx x
  go_enter Tryz.func22, Tryz.ntmps22
  go_wp2_with fail
  rw [← HW0.out]
  refine (sameFluid_same aoH s.aoH capH s.capH s.held w0 HX.out.held HS.out.held HHL.out).mono ?_
  rintro e w1 ⟨rfl, hb⟩
  have KX1 : Hid (Bk w.heap.size [.slice aoW wl.length capW, .bool s.tip, .slice aoH s.held.length capH, .slice aoT s.touched.length capT, .int .i64 s.used, .int .i64 s.heat, .int .i64 s.clock] w1) := KX0.out.later hb
  have KS1 : Hid (Bk (w.heap.size + 1) (sml s) w1) := KS0.out.later hb
  have HB1 : Hid (Below w.heap.size w w1) := HB0.out.trans (hb.mono HB0.out.size)
  have HX1 : Hid (SmIn w1 ⟨aoW, capW, wl, s.tip, aoH, capH, s.held, aoT, capT, s.touched, s.used, s.heat, s.clock⟩) := HX.out.next hb
  have HS1 : Hid (SmIn w1 s) := HS.out.next hb
  clear hb HX HS KX0 KS0 HB0
  have x0 := (KX1.out).c 0 rfl
  have x1 := (KX1.out).c 1 rfl
  have x2 := (KX1.out).c 2 rfl
  have x3 := (KX1.out).c 3 rfl
  have x4 := (KX1.out).c 4 rfl
  have x5 := (KX1.out).c 5 rfl
  have x6 := (KX1.out).c 6 rfl
  have y0 := (KS1.out).c 0 rfl
  have y1 := (KS1.out).c 1 rfl
  have y2 := (KS1.out).c 2 rfl
  have y3 := (KS1.out).c 3 rfl
  have y4 := (KS1.out).c 4 rfl
  have y5 := (KS1.out).c 5 rfl
  have y6 := (KS1.out).c 6 rfl
  go_wp2_with fail
  go_loopw [5] (fun i wr => ∃ k : Nat, k ≤ s.touched.length ∧ i = .int .i64 k ∧ ∃ n, wr = w1.drewN n) (fun i _ => s.touched.length - (intOf i).toNat)
  case atStart => exact ⟨0, Nat.zero_le _, rfl, 0, rfl⟩
  case round =>
    obtain ⟨k, hk, rfl, n, rfl⟩ := hrel
    by_cases hlt : k < s.touched.length
    · obtain ⟨b, off, ha, hb, c0, _⟩ := HX1.out.touched.at hlt
      obtain ⟨b', off', ha', hb', c0', _⟩ := HS1.out.touched.at hlt
      simp only at ha c0
      generalize s.touched[k]'hlt = q at *
      rw [ha] at x3
      rw [ha'] at y3
      have hki : (k : Int) < (s.touched.length : Int) := by omega
      clear ha ha'
      go_wp2
      go_big_quiet (fail)
      go_wp2
      go_roundw
      case rel => exact ⟨k + 1, by omega, by go_num, n + nq, by simp⟩
      case measure => simp [intOf]; omega
    · obtain rfl : k = s.touched.length := by omega
      clear hlt
      have HBn : Hid (Below w1.heap.size w1 (w1.drewN n)) := blw_drewN (Below.refl _ _) n
      have HCW := (show Hid _ from sameWells_same ⟨aoW, capW, wl, s.tip, aoH, capH, s.held, aoT, capT, s.touched, s.used, s.heat, s.clock⟩ s (w1.drewN n) (HX1.out.next HBn.out) (HS1.out.next HBn.out) HE1.out HL.out HFL.out)
      go_wp2_with fail
      refine Calls.mono HCW.out ?_
      rintro e w2 ⟨rfl, hb⟩
      have HB2 : Hid (Below w.heap.size w w2) := (HB1.out.trans (HBn.out.mono HB1.out.size)).trans (hb.mono (Nat.le_trans HB1.out.size HBn.out.size))
      clear hb
      go_wp2
      go_ret
      exact ⟨rfl, HB2.out⟩
end Go.Proofs.YtfadmpnpgiceeaaGreat
