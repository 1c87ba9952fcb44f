/- deck.Boxes walked. -/
import Derived.Test.YtmmpaaaifdikdaaGreatDoorDE
import Derived.Test.YtmmpaaaifdikdaaGreatDoorDF
import Derived.Test.YtmmpaaaifdikdaaGreatDoorSD
namespace Go.Proofs.YtmmpaaaifdikdaaGreatDoor
open Go.RowKit

/-- The box of a seat. -/
def boxOf (s : Sit) : S.Bx := ⟨cx s.slot, cy s.slot, 0, cx s.slot + s.ware.wid, cy s.slot + s.ware.len, 0 + s.ware.hei⟩
theorem S.OwnB.later {w w' : World} {base : Nat} {v : Value} {l : List S.Bx} (h : S.OwnB w base v l) (hb : Below w.heap.size w w') : S.OwnB w' base v l := owns_later h hb
theorem S.OwnB.nil (w : World) (base : Nat) : S.OwnB w base (.slice none 0 0) [] := World.ownsRow_nil w base 55 6
/-- One box appended to the call's own. -/
theorem wpList_append_box (w : World) {ops : Array Oper} {rest : List Oper} {o : Oper} {a : Act} {Q : Exit → Act → World → Prop} (hgd : o.guard = none) (s x : Operand)
    (ho : o.op = .call { callee := .builtin .append, args := #[s, x], argTypes := #[37, 37] }) (base : Nat) (v : Value) (l : List S.Bx) (hs : a.eval s = v) (hown : S.OwnB w base v l)
    (b : S.Bx) (ad : Addr) (hx : a.eval x = .slice (some ad) 1 1) (hq : S.Bxs w (some ad) [b]) (hlen : l.length ≤ 1000000) (hbase : base ≤ w.heap.size)
    (h : ∀ v' w', S.OwnB w' base v' (l ++ [b]) → w.grownBy w' v.ownBlock → wpList Tryz.prog ops Q rest (a.put o.dst v') w') :
    wpList Tryz.prog ops Q (o :: rest) a w := by
  obtain ⟨i0, hi, hz0, hz1, hz2⟩ := info_parts S.Tryz.info55
  refine wpList_append_own_at w hgd s x 37 ho base 55 i0 (.agg #[.int .i64 0, .int .i64 0, .int .i64 0, .int .i64 0, .int .i64 0, .int .i64 0]) 6 48 Tryz.underlying37 hi hz0 hz1 hz2 rfl (by decide) v l.length (S.cellsB l) hs hown ad 1 1 (S.cellsB [b]) hx (S.cellsB_length [b]) hq.cells S.cellsB_one ?_ ?_ hbase ?_
  · unfold maxLen; omega
  · omega
  · intro v' w' h1 h2 _ h4
    refine h v' w' ?_ h2
    unfold S.OwnB
    rw [S.cellsB_append, List.length_append]
    exact h1
set_option maxHeartbeats 1600000 in
theorem boxes_err (ao : Option Addr) (cap : Nat) (l : List Sit) (w : World) (hL : Sts w ao l) (hcap : l.length ≤ cap) (hl : l.length ≤ 9223372036854775807) (hok : ∀ s ∈ l, SOk s) (hd : dchk l ≠ 0) :
    Calls Tryz.prog 14 #[.slice ao l.length cap] w fun e w' => e = .returned (.tuple #[.slice none 0 0, .int .i64 (dchk l)]) ∧ Below w.heap.size w w' := by
  have HC := deckCheck_any ao cap l w hL hcap hl hok
  have hne : (dchk l != 0) = true := by simp [hd]
  clear hL hok hd
  generalize dchk l = e0 at *
  go_enter Tryz.func14, Tryz.ntmps14
  go_wp2_with (go_at_call 6; refine Calls.mono HC ?_; rintro e w1 ⟨rfl, hb⟩)
  refine bodyPost_ret (v := .tuple #[.slice none 0 0, .int .i64 e0]) (by simp [results, Tryz.results14, go_sem]) rfl ⟨rfl, hb⟩
/-- A slice of just this box. -/
def IsBx (b : S.Bx) (v : Value) (w : World) : Prop := ∃ n, v = .slice (some ⟨n, 0, none⟩) 1 1 ∧ S.Bxs w (some ⟨n, 0, none⟩) [b]
theorem IsBx.later {b : S.Bx} {v : Value} {w w' : World} (h : IsBx b v w) (hb : Below w.heap.size w w') : IsBx b v w' := by
  obtain ⟨n, h1, h2⟩ := h
  exact ⟨n, h1, h2.next hb⟩
def bxV (X Y mx my mz X' Y' Z' : Int) (v0 : Value) (d : Nat) (v : Value) (w : World) : Prop :=
  match d with
  | 34 => v = v0
  | 35 => v = ptv X Y 0
  | 36 => v = ptv X Y 0
  | 37 => v = ptv mx my mz
  | 38 => v = ptv X' Y' Z'
  | 39 => v = S.bv ⟨X, Y, 0, X', Y', Z'⟩
  | 40 => IsBx ⟨X, Y, 0, X', Y', Z'⟩ v w
  | _ => True
theorem bxV_mono (X Y mx my mz X' Y' Z' : Int) (v0 : Value) (d : Nat) (v : Value) (w w' : World) (h : bxV X Y mx my mz X' Y' Z' v0 d v w) (hb : Below w.heap.size w w') : bxV X Y mx my mz X' Y' Z' v0 d v w' := by
  unfold bxV at h ⊢
  split <;> simp only [] at h <;> first | exact h | exact h.later hb
set_option maxHeartbeats 6400000 in
set_option maxRecDepth 100000 in
theorem boxes_ok (ao : Option Addr) (cap : Nat) (l : List Sit) (w : World) (hL : Sts w ao l) (hcap : l.length ≤ cap) (hok : ∀ s ∈ l, SOk s) (hd : dchk l = 0) :
    Calls Tryz.prog 14 #[.slice ao l.length cap] w fun e w' => ∃ v, e = .returned (.tuple #[v, .int .i64 0]) ∧ S.OwnB w' w.heap.size v (l.map boxOf) ∧ Below w.heap.size w w' := by
  have h12 := (dchk_in hd).1
  have HC : Hid (Calls Tryz.prog 6 #[.slice ao l.length cap] w fun e w' => e = .returned (.int .i64 0) ∧ Below w.heap.size w w') := by
    have := deckCheck_any ao cap l w hL hcap (by omega) hok
    rw [hd] at this
    exact this
  have HL : Hid (Sts w ao l) := hL
  have HD : Hid (∀ k (hk : k < l.length), plc (l[k]'hk) = 0 ∧ chk (l[k]'hk).ware = 0 ∧ fit (l.take k) (l[k]'hk) = 0) := (dchk_in hd).2
  clear hL hok hd
  go_enter Tryz.func14, Tryz.ntmps14
  go_wp2_with fail
  refine Calls.mono HC.out ?_
  rintro e w1 ⟨rfl, hb1⟩
  have HB1 : Hid (Below w.heap.size w w1) := hb1
  clear hb1 HC
  go_wp2_with fail
  go_loopw [5, 17] (fun v i wr => ∃ k : Nat, k ≤ l.length ∧ i = .int .i64 k ∧ S.OwnB wr w.heap.size v ((l.map boxOf).take k) ∧ Below w.heap.size w wr) (fun _ i _ => l.length - (intOf i).toNat)
  case atStart => exact ⟨0, Nat.zero_le _, rfl, by simpa using S.OwnB.nil w1 w.heap.size, HB1.out⟩
  case round =>
    obtain ⟨k, hk, rfl, hown, hb⟩ := hrel
    obtain ⟨ao1, cap1, rfl, _, _⟩ := hown.shape
    have HTK : Hid (((l.map boxOf).take k).length = k) := by show _ = _; rw [List.length_take, List.length_map]; omega
    rw [HTK.out] at hown ⊢
    have HO : Hid (S.OwnB wr w.heap.size (.slice ao1 k cap1) ((l.map boxOf).take k)) := hown
    have HB : Hid (Below w.heap.size w wr) := hb
    clear hown hb
    by_cases hlt : k < l.length
    · obtain ⟨b, off, rfl, hbx⟩ := (HL.out.next HB.out).at hlt
      obtain ⟨hp, h0, _⟩ := HD.out k hlt
      have HTS : Hid ((l.map boxOf).take (k + 1) = (l.map boxOf).take k ++ [boxOf (l[k]'hlt)]) := by
        show _ = _
        rw [List.take_succ_eq_append_getElem (by simpa using hlt), List.getElem_map]
      generalize l[k]'hlt = s at *
      have HPL : Hid (1 ≤ s.slot ∧ s.slot ≤ 12) := ⟨(plc_in hp).1, (plc_in hp).2.1⟩
      have HIN : Hid (∀ m ∈ [cx s.slot, cy s.slot, 0, s.ware.wid, s.ware.len, s.ware.hei], 0 ≤ m ∧ m ≤ 1000000000000) := by
        obtain ⟨_, _, _, _, _, _, _, _, _, _, _, _, _, _, _, _, _, _⟩ := chk_inR h0
        have h5 := cx_in (n := s.slot)
        have h6 := cy_in HPL.out.1 HPL.out.2
        intro m hm
        simp only [List.mem_cons, List.mem_nil_iff, or_false] at hm
        rcases hm with e | e | e | e | e | e <;> omega
      obtain ⟨X, hX⟩ : ∃ X, X = cx s.slot := ⟨_, rfl⟩
      obtain ⟨Y, hY⟩ : ∃ Y, Y = cy s.slot := ⟨_, rfl⟩
      obtain ⟨X', hX'⟩ : ∃ X', X' = X + s.ware.wid := ⟨_, rfl⟩
      obtain ⟨Y', hY'⟩ : ∃ Y', Y' = Y + s.ware.len := ⟨_, rfl⟩
      obtain ⟨Z', hZ'⟩ : ∃ Z', Z' = 0 + s.ware.hei := ⟨_, rfl⟩
      have HBX : Hid (boxOf s = ⟨X, Y, 0, X', Y', Z'⟩) := by show _ = _; rw [hX', hY', hZ', hX, hY]; rfl
      have HCO : Hid (∀ W : World, Calls Tryz.prog 39 #[.int .i64 s.slot] W fun e w' => e = .returned (ptv X Y 0) ∧ Below W.heap.size W w') := fun W => by rw [hX, hY]; exact corner_any s.slot W HPL.out.1 HPL.out.2
      have HAD : Hid (∀ W : World, Calls Tryz.prog 40 #[ptv X Y 0, ptv s.ware.wid s.ware.len s.ware.hei] W fun e w' => e = .returned (ptv X' Y' Z') ∧ Below W.heap.size W w') := fun W => by
        rw [hX', hY', hZ', hX, hY]; exact added_any _ _ _ _ _ _ W HIN.out
      clear hX hY hX' hY' hZ' hp h0 HIN HPL
      obtain ⟨_, c0, c1, c2, c3, c4, c5, c6, c7, c8, c9, c10, c11, c12, c13⟩ := hbx
      have hki : (k : Int) < (l.length : Int) := by omega
      go_wp2_with fail
      refine Calls.mono (HCO.out (wr.alloc (sobj s))) ?_
      rintro e w2 ⟨rfl, hb2⟩
      have al : Below wr.heap.size wr (wr.alloc (sobj s)) := (Below.refl _ _).alloc (Nat.le_refl _) _
      have HB2 : Hid (Below w.heap.size w w2) := (HB.out.alloc HB.out.size _).trans (hb2.mono (by have := HB.out.size; simp; omega))
      have HO2 : Hid (S.OwnB w2 w.heap.size (.slice ao1 k cap1) ((l.map boxOf).take k)) := S.OwnB.later (S.OwnB.later HO.out al) hb2
      obtain ⟨ql, q0, q1, q2, q3, q4, q5, q6, q7, q8, q9, q10, q11, q12, q13⟩ := ((Sf.new wr s).later hb2).bx
      simp only [Nat.zero_add] at q1 q2 q3 q4 q5 q6 q7 q8 q9 q10 q11 q12 q13
      clear hb2 al HO HCO c0 c1 c2 c3 c4 c5 c6 c7 c8 c9 c10 c11 c12 c13
      go_wp2_with fail
      rename_i KK hkk
      have HKK := (show Hid _ from hkk)
      clear hkk q0 q1 q2 q3 q4 q5 q6 q7 q8 q9 q10 q11 q12 q13 ql
      obtain ⟨w3, hw3⟩ : ∃ w3, w3 = (w2.alloc (pto X Y 0)).alloc (pto s.ware.wid s.ware.len s.ware.hei) := ⟨_, rfl⟩
      have al2 : Below w2.heap.size w2 w3 := by rw [hw3]; exact ((Below.refl _ _).alloc (Nat.le_refl _) _).alloc (by simp) _
      have HB3 : Hid (Below w.heap.size w w3) := HB2.out.trans (al2.mono HB2.out.size)
      have HO3 : Hid (S.OwnB w3 w.heap.size (.slice ao1 k cap1) ((l.map boxOf).take k)) := S.OwnB.later HO2.out al2
      have TA : Hid (T3 w2.heap.size X Y 0 w3) := by show T3 _ _ _ _ _; rw [hw3]; exact (T3.new w2 X Y 0 46 _ rfl).later ((Below.refl _ _).alloc (Nat.le_refl _) _)
      have TB : Hid (T3 (w2.heap.size + 1) s.ware.wid s.ware.len s.ware.hei w3) := by show T3 _ _ _ _ _; rw [hw3]; exact T3.new (w2.alloc (pto X Y 0)) _ _ _ 46 _ (by simp)
      rw [← hw3]
      clear hw3 al2 HO2
      try rw [show decide ((k : Int) < (l.length : Int)) = true by simp; omega]
      refine region_seq 7 [false, false, false, false, false, false, false, false, false, false, false, false, false, false, false, false, false, false, false, false, false, false, false, false, false, false, false, false, false, false, false, false, false, false, true, true, true, true, true, true, true, false, false, false]
        [(34, [], none), (35, [], none), (36, [], none), (37, [], none), (38, [36, 37], none), (39, [35, 38], none), (40, [39], none)]
        (bxV X Y s.ware.wid s.ware.len s.ware.hei X' Y' Z' (.slice ao1 k cap1)) (by kernel_rfl) (by kernel_rfl) (by kernel_rfl) (by kernel_rfl) (by kernel_rfl) (by decide) (bxV_mono X Y s.ware.wid s.ware.len s.ware.hei X' Y' Z' (.slice ao1 k cap1)) ?_ ?_
      · refine ⟨?_, ?_, ?_, ?_, ?_, ?_, ?_, trivial⟩
        · intro f wz hb _ K hK
          simp only [over, overL, Nat.reduceAdd]
          go_simp
          exact hK _ _ ⟨_, rfl, by simp only [over, overL, Nat.reduceAdd]; rfl, Below.refl _ _⟩
        · intro f wz hb _ K hK
          obtain ⟨_, t0, t1, t2, _, _, _⟩ := TA.out.later hb
          simp only [over, overL, Nat.reduceAdd]
          go_simp
          exact hK _ _ ⟨_, rfl, by simp only [over, overL, Nat.reduceAdd]; rfl, Below.refl _ _⟩
        · intro f wz hb _ K hK
          obtain ⟨_, t0, t1, t2, _, _, _⟩ := TA.out.later hb
          simp only [over, overL, Nat.reduceAdd]
          go_simp
          exact hK _ _ ⟨_, rfl, by simp only [over, overL, Nat.reduceAdd]; rfl, Below.refl _ _⟩
        · intro f wz hb _ K hK
          obtain ⟨_, t0, t1, t2, _, _, _⟩ := TB.out.later hb
          simp only [over, overL, Nat.reduceAdd]
          go_simp
          exact hK _ _ ⟨_, rfl, by simp only [over, overL, Nat.reduceAdd]; rfl, Below.refl _ _⟩
        · intro f wz hb ⟨h36, h37, _⟩ K hK
          have h36 : f 36 = _ := h36
          have h37 : f 37 = _ := h37
          simp only [over, overL, Nat.reduceAdd, h36, h37]
          go_simp
          refine Calls.mono (HAD.out _) ?_
          rintro e w9 ⟨rfl, hb9⟩
          exact hK _ _ ⟨_, rfl, by simp only [over, overL, Nat.reduceAdd, h36, h37]; rfl, hb9⟩
        · intro f wz hb ⟨h35, h38, _⟩ K hK
          have h35 : f 35 = _ := h35
          have h38 : f 38 = _ := h38
          simp only [over, overL, Nat.reduceAdd, h35, h38]
          go_simp
          exact hK _ _ ⟨_, rfl, by simp only [over, overL, Nat.reduceAdd, h35, h38]; rfl, Below.refl _ _⟩
        · intro f wz hb ⟨h39, _⟩ K hK
          have h39 : f 39 = _ := h39
          simp only [over, overL, Nat.reduceAdd, h39]
          go_simp
          exact hK _ _ ⟨_, ⟨wz.heap.size, rfl, S.Bxs.one wz ⟨X, Y, 0, X', Y', Z'⟩⟩, by simp only [over, overL, Nat.reduceAdd, h39]; rfl, (Below.refl _ _).alloc (Nat.le_refl _) _⟩
      intro f w4 hb4 hv
      have h34 : f 34 = .slice ao1 k cap1 := hv.1
      obtain ⟨nb, h40, hq⟩ := (show IsBx ⟨X, Y, 0, X', Y', Z'⟩ (f 40) w4 from hv.2.2.2.2.2.2.1)
      have HB4 : Hid (Below w.heap.size w w4) := HB3.out.trans (hb4.mono HB3.out.size)
      have HO4 : Hid (S.OwnB w4 w.heap.size (.slice ao1 k cap1) ((l.map boxOf).take k)) := S.OwnB.later HO3.out hb4
      have HQ : Hid (S.Bxs w4 (some ⟨nb, 0, none⟩) [⟨X, Y, 0, X', Y', Z'⟩]) := hq
      clear hb4 hv HAD TA TB HO3 hq
      simp only [over, overL, h34, h40, Nat.reduceAdd, List.drop_succ_cons, List.drop_zero]
      clear h34 h40
      refine wpList_append_box w4 rfl (.tmp 34) (.tmp 40) rfl w.heap.size (.slice ao1 k cap1) ((l.map boxOf).take k) rfl HO4.out ⟨X, Y, 0, X', Y', Z'⟩ ⟨nb, 0, none⟩ rfl HQ.out (by rw [HTK.out]; omega) HB4.out.size ?_
      intro v' w5 hown1 hg
      have HB5 : Hid (Below w.heap.size w w5) := below_owns HB4.out HO4.out hg HB4.out.size
      have HO5 : Hid (S.OwnB w5 w.heap.size v' ((l.map boxOf).take (k + 1))) := by show S.OwnB _ _ _ _; rw [HTS.out, HBX.out]; exact hown1
      clear hown1 hg
      simp only [Act.put, List.setIfInBounds_toArray, List.set_cons_succ, List.set_cons_zero]
      go_wp2_with fail
      refine HKK.out _ _ ?_
      go_wp2
      go_roundw
      case rel => exact ⟨k + 1, by omega, by go_num, HO5.out, HB5.out⟩
      case measure => simp [intOf]; omega
    · have HE : Hid ((l.map boxOf).take k = l.map boxOf) := by show _ = _; exact List.take_of_length_le (by simp; omega)
      go_wp2
      refine bodyPost_ret (v := .tuple #[.slice ao1 k cap1, .int .i64 0]) (by simp [results, Tryz.results14, go_sem]) rfl ⟨_, rfl, ?_, HB.out⟩
      have := HO.out
      rwa [HE.out] at this

end Go.Proofs.YtmmpaaaifdikdaaGreatDoor
