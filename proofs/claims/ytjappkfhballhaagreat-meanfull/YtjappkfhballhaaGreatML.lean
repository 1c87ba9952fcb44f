/- newLayout walked. -/
import Derived.Test.YtjappkfhballhaaGreatMK
namespace Go.Proofs.YtjappkfhballhaaGreat
open Go.RowKit

def nlV (g n cp M : Nat) (ao : Option Addr) (cap : Nat) (l : List Sit) (t : Int) (p : Plc) (a : Wr) (e0 : Int) (d : Nat) (v : Value) (w : World) : Prop :=
  match d with
  | 21 => v = .agg #[.slice ao l.length cap, .int .i64 t, .int .i64 0]
  | 22 => v = .slice (some ⟨g, 0, none⟩) n cp
  | 23 => v = .pointer (some ⟨g, 0, none⟩)
  | 24 => v = .agg #[.int .i64 p.1, .int .i64 p.2.1, .int .i64 p.2.2]
  | 25 => v = .tuple #[wv a, .int .i64 e0]
  | 20 => v = .tuple #[wv a, .int .i64 e0]
  | 26 => v = wv a
  | 27 => v = .int .i64 e0
  | 6 => ∃ b, v = ptr b ∧ M ≤ b ∧ Bk b (wcl zWr) w
  | _ => True
theorem nlV_mono (g n cp M : Nat) (ao : Option Addr) (cap : Nat) (l : List Sit) (t : Int) (p : Plc) (a : Wr) (e0 : Int) (d : Nat) (v : Value) (w w' : World) (h : nlV g n cp M ao cap l t p a e0 d v w) (hb : Below w.heap.size w w') : nlV g n cp M ao cap l t p a e0 d v w' := by
  unfold nlV at h ⊢
  split <;> simp only [] at h <;> first | exact h | (obtain ⟨b, h1, h2, h3⟩ := h; exact ⟨b, h1, h2, h3.later hb⟩)
theorem bk_put12 {B : Nat} {z : Wr} {w : World} (h : Bk B (wcl z) w) (a : Wr) : Bk B (wcl a) (put12 w B a) :=
  (((((((((((h.put 0 (.string a.name)).put 1 (.int .i64 a.kind)).put 2 (.int .i64 a.rows)).put 3 (.int .i64 a.cols)).put 4 (.int .i64 a.x)).put 5 (.int .i64 a.y)).put 6 (.int .i64 a.pitch)).put 7 (.int .i64 a.wid)).put 8 (.int .i64 a.len)).put 9 (.int .i64 a.hei)).put 10 (.int .i64 a.deep)).put 11 (.int .i64 a.cap)
theorem bk_oth12 {b B : Nat} {cs : List Value} {w : World} (h : Bk b cs w) (hn : b ≠ B) (a : Wr) : Bk b cs (put12 w B a) :=
  (((((((((((h.other hn 0 _).other hn 1 _).other hn 2 _).other hn 3 _).other hn 4 _).other hn 5 _).other hn 6 _).other hn 7 _).other hn 8 _).other hn 9 _).other hn 10 _).other hn 11 _
theorem tipM_ware {l : List Sit} {p : Plc} {r : List Plc} (h : tipsL l = p :: r) : tipM l = (wareV l p).1.cap := by
  unfold tipM
  rw [h]
  simp only [wareV]
  cases h2 : wareOf l p <;> rfl
set_option maxHeartbeats 3200000 in
set_option maxRecDepth 100000 in
theorem newLayout_any (ao : Option Addr) (cap : Nat) (l : List Sit) (w : World) (hD : Dk w ao cap l) (hd : dchk l = 0) :
    Calls Tryz.prog 28 #[.slice ao l.length cap] w fun e w' => e = .returned (layv ao cap l) ∧ Below w.heap.size w w' := by
  have HD : Hid (Dk w ao cap l) := hD
  have HDC : Hid (dchk l = 0) := hd
  have al : Below w.heap.size w (w.alloc (.cells #[.slice none 0 0, .int .i64 0, .int .i64 0] 67)) := (Below.refl _ _).alloc (Nat.le_refl _) _
  have HT := (show Hid _ from tips_any ao cap l _ (hD.next al) hd)
  clear hD hd
  cases hts : tipsL l with
  | nil =>
    have HN : Hid (layv ao cap l = .agg #[.slice ao l.length cap, .int .i64 0, .int .i64 0]) := by show _ = _; simp [layv, tipM, hts]
    rw [hts] at HT
    clear hts
    go_enter Tryz.func28, Tryz.ntmps28
    go_wp2_with fail
    refine Calls.mono HT.out ?_
    rintro e w1 ⟨v, rfl, ho, hb⟩
    obtain ⟨aoV, capV, rfl⟩ := ho.shape
    have K := (Bk.new w [.slice none 0 0, .int .i64 0, .int .i64 0] 67 w.heap.size rfl).later hb
    have HB : Hid (Below w.heap.size w w1) := al.trans (hb.mono (by simp))
    have lt := K.1
    clear hb al ho HT
    have a0 := (K).c 0 rfl
    have af0 := (K).f 0 rfl
    have a1 := (K).c 1 rfl
    have af1 := (K).f 1 rfl
    have a2 := (K).c 2 rfl
    have af2 := (K).f 2 rfl
    clear K
    simp only [List.length_nil]
    go_wp2
    refine bodyPost_ret (v := .agg #[.slice ao l.length cap, .int .i64 0, .int .i64 0]) (by simp [results, Tryz.results28, go_sem, a0, a1, a2, lt]) rfl ⟨by rw [HN.out], ?_⟩
    exact (((HB.out.setCell (Nat.le_refl _) _).setCell (Nat.le_refl _) _).setCell (Nat.le_refl _) _).alloc (by have := HB.out.size; simp [World.setCell]; omega) _
  | cons p r =>
    have HN : Hid (tipM l = (wareV l p).1.cap) := tipM_ware hts
    have HTL : Hid ((tipsL l).length = r.length + 1) := by show _ = _; rw [hts]; rfl
    have HWC : Hid (∀ W, Dk W ao cap l → Calls Tryz.prog 67 #[lay3 ao cap l ((tipsL l).length : Int) 0, plv p] W fun e w' => e = .returned (.tuple #[wv (wareV l p).1, .int .i64 (wareV l p).2]) ∧ Below W.heap.size W w') := fun W hW => wareAt_any ao cap l p _ 0 W hW HDC.out
    rw [hts] at HT
    clear hts
    obtain ⟨⟨a, e0⟩, hV⟩ : ∃ x, wareV l p = x := ⟨_, rfl⟩
    rw [hV] at HN HWC
    simp only at HN HWC
    clear hV
    go_enter Tryz.func28, Tryz.ntmps28
    go_wp2_with fail
    refine Calls.mono HT.out ?_
    rintro e w1 ⟨v, rfl, ho, hb⟩
    obtain ⟨g, cp, rfl, _, _, hg, hc⟩ := (ho.read goodP).resolve_left (by simp)
    have c0 := hc 0 (by simp) 0 (by decide)
    have c1 := hc 0 (by simp) 1 (by decide)
    have c2 := hc 0 (by simp) 2 (by decide)
    simp only [List.getElem_cons_zero, List.getElem?_cons_zero, List.getElem?_cons_succ, Nat.zero_mul, Nat.zero_add] at c0 c1 c2
    have K : Hid (Bk w.heap.size [.slice none 0 0, .int .i64 0, .int .i64 0] w1) := (Bk.new w [.slice none 0 0, .int .i64 0, .int .i64 0] 67 w.heap.size rfl).later hb
    have HB : Hid (Below w.heap.size w w1) := al.trans (hb.mono (by simp))
    have lt := K.out.1
    clear hb al ho hc HT
    have hE : (p :: r).length = (tipsL l).length := by rw [HTL.out]; rfl
    have hpos : 0 < (tipsL l).length := by rw [HTL.out]; omega
    rw [hE]
    clear hE HTL
    obtain ⟨w2, hw2⟩ : ∃ w2, w2 = w1.alloc (lao3 ao cap l ((tipsL l).length : Int) 0) := ⟨_, rfl⟩
    have HW2 : Hid (w2 = w1.alloc (lao3 ao cap l ((tipsL l).length : Int) 0)) := hw2
    have b12 : Below w1.heap.size w1 w2 := by rw [hw2]; exact (Below.refl _ _).alloc (Nat.le_refl _) _
    have KY : Hid (Bk w1.heap.size [.slice ao l.length cap, .int .i64 ((tipsL l).length : Int), .int .i64 0] w2) := by show Bk _ _ _; rw [hw2]; exact Bk.new w1 _ 67 w1.heap.size rfl
    have K2 : Hid (Bk w.heap.size [.slice none 0 0, .int .i64 0, .int .i64 0] w2) := K.out.later b12
    have HB2 : Hid (Below w.heap.size w w2) := HB.out.trans (b12.mono HB.out.size)
    replace c0 := cell_later b12 c0
    replace c1 := cell_later b12 c1
    replace c2 := cell_later b12 c2
    have HC : Hid (∀ W, Below w2.heap.size w2 W → Calls Tryz.prog 67 #[lay3 ao cap l ((tipsL l).length : Int) 0, plv p] W fun e w' => e = .returned (.tuple #[wv a, .int .i64 e0]) ∧ Below W.heap.size W w') := fun W hW => HWC.out W ((HD.out.next HB2.out).next hW)
    clear hw2 b12 HWC
    go_wp2_with fail
    rename_i KK hkk
    have HKK := (show Hid _ from hkk)
    clear hkk
    rw [← HW2.out]
    have hz1 : (0 : Int) < ((tipsL l).length : Int) := by omega
    refine region_seqL 9 7 [false, false, false, false, false, false, true, false, false, false, false, false, false, false, false, false, false, false, false, false, true, true, true, true, true, true, true, true, false, false, false, false]
      [(21, [], none), (22, [], none), (23, [22], none), (24, [23], none), (25, [21, 24], none), (20, [25], none), (26, [20], none), (27, [20], none), (6, [], none)]
      (nlV g (tipsL l).length cp w2.heap.size ao cap l ((tipsL l).length : Int) p a e0) (by kernel_rfl) (by kernel_rfl) (by kernel_rfl) (by kernel_rfl) (by kernel_rfl) (by decide) (by decide) (nlV_mono g (tipsL l).length cp w2.heap.size ao cap l ((tipsL l).length : Int) p a e0) ?_ ?_ ?_
    · refine ⟨?_, ?_, ?_, ?_, ?_, ?_, ?_, ?_, ?_, trivial⟩
      · intro f w1 hb _ K hK
        have q0 := (KY.out.later hb).c 0 rfl
        have q1 := (KY.out.later hb).c 1 rfl
        have q2 := (KY.out.later hb).c 2 rfl
        simp only [over, overL, Nat.reduceAdd]
        go_simp
        exact hK _ _ ⟨_, rfl, by simp only [over, overL, Nat.reduceAdd]; rfl, Below.refl _ _⟩
      · intro f w1 hb _ K hK
        simp only [over, overL, Nat.reduceAdd]
        go_simp
        exact hK _ _ ⟨_, rfl, by simp only [over, overL, Nat.reduceAdd]; rfl, Below.refl _ _⟩
      · intro f w1 hb ⟨h22, _⟩ K hK
        replace h22 : f 22 = _ := h22
        simp only [over, overL, Nat.reduceAdd, h22]
        go_simp
        exact hK _ _ ⟨_, rfl, by simp only [over, overL, Nat.reduceAdd, h22]; rfl, Below.refl _ _⟩
      · intro f w1 hb ⟨h23, _⟩ K hK
        replace h23 : f 23 = _ := h23
        have q0 := cell_later hb c0
        have q1 := cell_later hb c1
        have q2 := cell_later hb c2
        simp only [over, overL, Nat.reduceAdd, h23]
        go_simp
        exact hK _ _ ⟨_, rfl, by simp only [over, overL, Nat.reduceAdd, h23]; rfl, Below.refl _ _⟩
      · intro f w1 hb ⟨h21, h24, _⟩ K hK
        replace h21 : f 21 = _ := h21
        replace h24 : f 24 = _ := h24
        simp only [over, overL, Nat.reduceAdd, h21, h24]
        go_simp
        refine (HC.out w1 hb).mono ?_
        rintro e w2 ⟨rfl, hb2⟩
        exact hK _ _ ⟨_, rfl, by simp only [over, overL, Nat.reduceAdd, h21, h24]; rfl, hb2⟩
      · intro f w1 hb ⟨h25, _⟩ K hK
        replace h25 : f 25 = _ := h25
        simp only [over, overL, Nat.reduceAdd, h25]
        go_simp
        exact hK _ _ ⟨_, rfl, by simp only [over, overL, Nat.reduceAdd, h25]; rfl, Below.refl _ _⟩
      · intro f w1 hb ⟨h20, _⟩ K hK
        replace h20 : f 20 = _ := h20
        simp only [over, overL, Nat.reduceAdd, h20]
        go_simp
        exact hK _ _ ⟨_, rfl, by simp only [over, overL, Nat.reduceAdd, h20]; rfl, Below.refl _ _⟩
      · intro f w1 hb ⟨h20, _⟩ K hK
        replace h20 : f 20 = _ := h20
        simp only [over, overL, Nat.reduceAdd, h20]
        go_simp
        exact hK _ _ ⟨_, rfl, by simp only [over, overL, Nat.reduceAdd, h20]; rfl, Below.refl _ _⟩
      · intro f w1 hb _ K hK
        simp only [over, overL, Nat.reduceAdd]
        go_simp
        exact hK _ _ ⟨_, ⟨w1.heap.size, rfl, hb.size, Bk.new w1 (wcl zWr) 61 w1.heap.size rfl⟩, by simp only [over, overL, Nat.reduceAdd]; rfl, (Below.refl _ _).alloc (Nat.le_refl _) _⟩
    · intro f w3 hb3 hv
      have h26 : f 26 = wv a := hv.2.2.2.2.2.2.1
      have h20 : f 20 = .tuple #[wv a, .int .i64 e0] := hv.2.2.2.2.2.1
      obtain ⟨b, h6, hbb, K6⟩ := (show ∃ b, f 6 = ptr b ∧ w2.heap.size ≤ b ∧ Bk b (wcl zWr) w3 from hv.2.2.2.2.2.2.2.2.1)
      have h27 : f 27 = .int .i64 e0 := hv.2.2.2.2.2.2.2.1
      have KY3 : Hid (Bk w1.heap.size [.slice ao l.length cap, .int .i64 ((tipsL l).length : Int), .int .i64 0] w3) := KY.out.later hb3
      have K3 : Hid (Bk w.heap.size [.slice none 0 0, .int .i64 0, .int .i64 0] w3) := K2.out.later hb3
      have HB3 : Hid (Below w.heap.size w w3) := HB2.out.trans (hb3.mono HB2.out.size)
      have hyb : w1.heap.size ≠ b := by have := KY.out.1; omega
      have hrb : w.heap.size ≠ b := by have := K2.out.1; omega
      have hwb : w.heap.size ≤ b := by have := HB2.out.size; omega
      have q0 := (K6).c 0 rfl
      have qf0 := (K6).f 0 rfl
      have q1 := (K6).c 1 rfl
      have qf1 := (K6).f 1 rfl
      have q2 := (K6).c 2 rfl
      have qf2 := (K6).f 2 rfl
      have q3 := (K6).c 3 rfl
      have qf3 := (K6).f 3 rfl
      have q4 := (K6).c 4 rfl
      have qf4 := (K6).f 4 rfl
      have q5 := (K6).c 5 rfl
      have qf5 := (K6).f 5 rfl
      have q6 := (K6).c 6 rfl
      have qf6 := (K6).f 6 rfl
      have q7 := (K6).c 7 rfl
      have qf7 := (K6).f 7 rfl
      have q8 := (K6).c 8 rfl
      have qf8 := (K6).f 8 rfl
      have q9 := (K6).c 9 rfl
      have qf9 := (K6).f 9 rfl
      have q10 := (K6).c 10 rfl
      have qf10 := (K6).f 10 rfl
      have q11 := (K6).c 11 rfl
      have qf11 := (K6).f 11 rfl
      clear hv hb3 c0 c1 c2 hbb
      simp only [List.drop, over, overL, Nat.reduceAdd, h26, h6, h27, h20]
      go_wp2
      refine HKK.out _ _ ?_
      obtain ⟨w4, hw4⟩ : ∃ w4, w4 = put12 w3 b a := ⟨_, rfl⟩
      have K64 : Hid (Bk b (wcl a) w4) := by show Bk _ _ _; rw [hw4]; exact bk_put12 K6 a
      have KY4 : Hid (Bk w1.heap.size [.slice ao l.length cap, .int .i64 ((tipsL l).length : Int), .int .i64 0] w4) := by show Bk _ _ _; rw [hw4]; exact bk_oth12 KY3.out hyb a
      have KR4 : Hid (Bk w.heap.size [.slice none 0 0, .int .i64 0, .int .i64 0] w4) := by show Bk _ _ _; rw [hw4]; exact bk_oth12 K3.out hrb a
      have HB4 : Hid (Below w.heap.size w w4) := by show Below _ _ _; rw [hw4]; exact below_put12 HB3.out hwb
      have hyr : w1.heap.size ≠ w.heap.size := by omega
      have hrw : w.heap.size ≠ w1.heap.size := by omega
      have hby : b ≠ w1.heap.size := fun e => hyb e.symm
      clear q0 q1 q2 q3 q4 q5 q6 q7 q8 q9 q10 q11 qf0 qf1 qf2 qf3 qf4 qf5 qf6 qf7 qf8 qf9 qf10 qf11 K6 KY3 K3 HB3 h26 h20 h6 h27
      rw [show ((((((((((((w3.setCell ⟨b, 0, none⟩ (.string a.name)).setCell ⟨b, 1, none⟩ (.int .i64 a.kind)).setCell ⟨b, 2, none⟩ (.int .i64 a.rows)).setCell ⟨b, 3, none⟩ (.int .i64 a.cols)).setCell ⟨b, 4, none⟩ (.int .i64 a.x)).setCell ⟨b, 5, none⟩ (.int .i64 a.y)).setCell ⟨b, 6, none⟩ (.int .i64 a.pitch)).setCell ⟨b, 7, none⟩ (.int .i64 a.wid)).setCell ⟨b, 8, none⟩ (.int .i64 a.len)).setCell ⟨b, 9, none⟩ (.int .i64 a.hei)).setCell ⟨b, 10, none⟩ (.int .i64 a.deep)).setCell ⟨b, 11, none⟩ (.int .i64 a.cap)) = w4 from hw4.symm]
      clear hw4
      have k11 := (K64.out).c 11 rfl
      have y0 := (KY4.out).c 0 rfl
      have yf0 := (KY4.out).f 0 rfl
      have y1 := (KY4.out).c 1 rfl
      have yf1 := (KY4.out).f 1 rfl
      have y2 := (KY4.out).c 2 rfl
      have yf2 := (KY4.out).f 2 rfl
      have r0 := (KR4.out).c 0 rfl
      have rf0 := (KR4.out).f 0 rfl
      have r1 := (KR4.out).c 1 rfl
      have rf1 := (KR4.out).f 1 rfl
      have r2 := (KR4.out).c 2 rfl
      have rf2 := (KR4.out).f 2 rfl
      go_wp2
      refine bodyPost_ret (v := layv ao cap l) (by simp [results, Tryz.results28, go_sem, r0, r1, r2, HN.out]) rfl ⟨rfl, ?_⟩
      exact (((HB4.out.setCell (p := ⟨w1.heap.size, 2, none⟩) (Nat.le_of_lt lt) _).setCell (Nat.le_refl _) _).setCell (Nat.le_refl _) _).setCell (Nat.le_refl _) _
    · intro f w3 ok ol hok hol hb3 hv
      cases hok
      cases hol
      have h26 : f 26 = wv a := hv.2.2.2.2.2.2.1 (by decide)
      have h20 : f 20 = .tuple #[wv a, .int .i64 e0] := hv.2.2.2.2.2.1 (by decide)
      obtain ⟨b, h6, hbb, K6⟩ := (show ∃ b, f 6 = ptr b ∧ w2.heap.size ≤ b ∧ Bk b (wcl zWr) w3 from hv.2.2.2.2.2.2.2.2.1 (by decide))
      have KY3 : Hid (Bk w1.heap.size [.slice ao l.length cap, .int .i64 ((tipsL l).length : Int), .int .i64 0] w3) := KY.out.later hb3
      have K3 : Hid (Bk w.heap.size [.slice none 0 0, .int .i64 0, .int .i64 0] w3) := K2.out.later hb3
      have HB3 : Hid (Below w.heap.size w w3) := HB2.out.trans (hb3.mono HB2.out.size)
      have hyb : w1.heap.size ≠ b := by have := KY.out.1; omega
      have hrb : w.heap.size ≠ b := by have := K2.out.1; omega
      have hwb : w.heap.size ≤ b := by have := HB2.out.size; omega
      have q0 := (K6).c 0 rfl
      have qf0 := (K6).f 0 rfl
      have q1 := (K6).c 1 rfl
      have qf1 := (K6).f 1 rfl
      have q2 := (K6).c 2 rfl
      have qf2 := (K6).f 2 rfl
      have q3 := (K6).c 3 rfl
      have qf3 := (K6).f 3 rfl
      have q4 := (K6).c 4 rfl
      have qf4 := (K6).f 4 rfl
      have q5 := (K6).c 5 rfl
      have qf5 := (K6).f 5 rfl
      have q6 := (K6).c 6 rfl
      have qf6 := (K6).f 6 rfl
      have q7 := (K6).c 7 rfl
      have qf7 := (K6).f 7 rfl
      have q8 := (K6).c 8 rfl
      have qf8 := (K6).f 8 rfl
      have q9 := (K6).c 9 rfl
      have qf9 := (K6).f 9 rfl
      have q10 := (K6).c 10 rfl
      have qf10 := (K6).f 10 rfl
      have q11 := (K6).c 11 rfl
      have qf11 := (K6).f 11 rfl
      clear hv hb3 c0 c1 c2 hbb
      simp only [List.drop, over, overL, Nat.reduceAdd, h26, h6, h20]
      go_wp2
      refine HKK.out _ _ ?_
      obtain ⟨w4, hw4⟩ : ∃ w4, w4 = put12 w3 b a := ⟨_, rfl⟩
      have K64 : Hid (Bk b (wcl a) w4) := by show Bk _ _ _; rw [hw4]; exact bk_put12 K6 a
      have KY4 : Hid (Bk w1.heap.size [.slice ao l.length cap, .int .i64 ((tipsL l).length : Int), .int .i64 0] w4) := by show Bk _ _ _; rw [hw4]; exact bk_oth12 KY3.out hyb a
      have KR4 : Hid (Bk w.heap.size [.slice none 0 0, .int .i64 0, .int .i64 0] w4) := by show Bk _ _ _; rw [hw4]; exact bk_oth12 K3.out hrb a
      have HB4 : Hid (Below w.heap.size w w4) := by show Below _ _ _; rw [hw4]; exact below_put12 HB3.out hwb
      have hyr : w1.heap.size ≠ w.heap.size := by omega
      have hrw : w.heap.size ≠ w1.heap.size := by omega
      have hby : b ≠ w1.heap.size := fun e => hyb e.symm
      clear q0 q1 q2 q3 q4 q5 q6 q7 q8 q9 q10 q11 qf0 qf1 qf2 qf3 qf4 qf5 qf6 qf7 qf8 qf9 qf10 qf11 K6 KY3 K3 HB3 h26 h20 h6
      rw [show ((((((((((((w3.setCell ⟨b, 0, none⟩ (.string a.name)).setCell ⟨b, 1, none⟩ (.int .i64 a.kind)).setCell ⟨b, 2, none⟩ (.int .i64 a.rows)).setCell ⟨b, 3, none⟩ (.int .i64 a.cols)).setCell ⟨b, 4, none⟩ (.int .i64 a.x)).setCell ⟨b, 5, none⟩ (.int .i64 a.y)).setCell ⟨b, 6, none⟩ (.int .i64 a.pitch)).setCell ⟨b, 7, none⟩ (.int .i64 a.wid)).setCell ⟨b, 8, none⟩ (.int .i64 a.len)).setCell ⟨b, 9, none⟩ (.int .i64 a.hei)).setCell ⟨b, 10, none⟩ (.int .i64 a.deep)).setCell ⟨b, 11, none⟩ (.int .i64 a.cap)) = w4 from hw4.symm]
      clear hw4
      have k11 := (K64.out).c 11 rfl
      have y0 := (KY4.out).c 0 rfl
      have yf0 := (KY4.out).f 0 rfl
      have y1 := (KY4.out).c 1 rfl
      have yf1 := (KY4.out).f 1 rfl
      have y2 := (KY4.out).c 2 rfl
      have yf2 := (KY4.out).f 2 rfl
      have r0 := (KR4.out).c 0 rfl
      have rf0 := (KR4.out).f 0 rfl
      have r1 := (KR4.out).c 1 rfl
      have rf1 := (KR4.out).f 1 rfl
      have r2 := (KR4.out).c 2 rfl
      have rf2 := (KR4.out).f 2 rfl
      go_wp2
      refine bodyPost_ret (v := layv ao cap l) (by simp [results, Tryz.results28, go_sem, r0, r1, r2, HN.out]) rfl ⟨rfl, ?_⟩
      exact (((HB4.out.setCell (p := ⟨w1.heap.size, 2, none⟩) (Nat.le_of_lt lt) _).setCell (Nat.le_refl _) _).setCell (Nat.le_refl _) _).setCell (Nat.le_refl _) _
end Go.Proofs.YtjappkfhballhaaGreat
