import Derived.Test.YtcajifelbldjnaaGreatHk
import Derived.Test.YtcajifelbldjnaaGreatHt
import Derived.Test.YtcajifelbldjnaaGreatHr

/- deck.Boxes walked. -/
namespace Go.Proofs.YtcajifelbldjnaaGreat
open Go.RowKit
/-- The box of a seat. -/
def boxOf (s : Sit) : S.Bx := ⟨cx s.slot, cy s.slot, 0, cx s.slot + s.ware.wid, cy s.slot + s.ware.len, 0 + s.ware.hei⟩
theorem S.OwnB.later {w w' : World} {base : Nat} {v : Value} {l : List S.Bx} (h : S.OwnB w base v l) (hb : Below w.heap.size w w') : S.OwnB w' base v l := owns_later h hb
theorem S.OwnB.nil (w : World) (base : Nat) : S.OwnB w base (.slice none 0 0) [] := World.ownsRow_nil w base 35 6
/-- One box appended to the call's own. -/
theorem wpList_append_box (w : World) {ops : Array Oper} {rest : List Oper} {o : Oper} {a : Act} {Q : Exit → Act → World → Prop} (hgd : o.guard = none) (s x : Operand)
    (ho : o.op = .call { callee := .builtin .append, args := #[s, x], argTypes := #[68, 68] }) (base : Nat) (v : Value) (l : List S.Bx) (hs : a.eval s = v) (hown : S.OwnB w base v l)
    (b : S.Bx) (ad : Addr) (hx : a.eval x = .slice (some ad) 1 1) (hq : S.Bxs w (some ad) [b]) (hlen : l.length ≤ 1000000) (hbase : base ≤ w.heap.size)
    (h : ∀ v' w', S.OwnB w' base v' (l ++ [b]) → w.grownBy w' v.ownBlock → wpList Tryz.prog ops Q rest (a.put o.dst v') w') :
    wpList Tryz.prog ops Q (o :: rest) a w := by
  obtain ⟨i0, hi, hz0, hz1, hz2⟩ := info_parts S.Tryz.info35
  refine wpList_append_own_at w hgd s x 68 ho base 35 i0 (.agg #[.int .i64 0, .int .i64 0, .int .i64 0, .int .i64 0, .int .i64 0, .int .i64 0]) 6 48 Tryz.underlying68 hi hz0 hz1 hz2 rfl (by decide) v l.length (S.cellsB l) hs hown ad 1 1 (S.cellsB [b]) hx (S.cellsB_length [b]) hq.cells S.cellsB_one ?_ ?_ hbase ?_
  · unfold maxLen; omega
  · omega
  · intro v' w' h1 h2 _ h4
    refine h v' w' ?_ h2
    unfold S.OwnB
    rw [S.cellsB_append, List.length_append]
    exact h1
/-- A slice of just this box. -/
def IsBx (b : S.Bx) (v : Value) (w : World) : Prop := ∃ n, v = .slice (some ⟨n, 0, none⟩) 1 1 ∧ S.Bxs w (some ⟨n, 0, none⟩) [b]
theorem IsBx.later {b : S.Bx} {v : Value} {w w' : World} (h : IsBx b v w) (hb : Below w.heap.size w w') : IsBx b v w' := by
  obtain ⟨n, h1, h2⟩ := h
  exact ⟨n, h1, h2.next hb⟩
def bxV (X Y mx my mz X' Y' Z' : Int) (v0 : Value) (d : Nat) (v : Value) (w : World) : Prop :=
  match d with
  | 34 => v = v0
  | 35 => v = ptv X Y 0
  | 36 => v = ptv X Y 0
  | 37 => v = ptv mx my mz
  | 38 => v = ptv X' Y' Z'
  | 39 => v = S.bv ⟨X, Y, 0, X', Y', Z'⟩
  | 40 => IsBx ⟨X, Y, 0, X', Y', Z'⟩ v w
  | _ => True
theorem bxV_mono (X Y mx my mz X' Y' Z' : Int) (v0 : Value) (d : Nat) (v : Value) (w w' : World) (h : bxV X Y mx my mz X' Y' Z' v0 d v w) (hb : Below w.heap.size w w') : bxV X Y mx my mz X' Y' Z' v0 d v w' := by
  unfold bxV at h ⊢
  split <;> simp only [] at h <;> first | exact h | exact h.later hb
set_option maxHeartbeats 6400000 in
set_option maxRecDepth 100000 in
theorem boxes_ok (ao : Option Addr) (cap : Nat) (l : List Sit) (w : World) (hL : Sts w ao l) (hcap : l.length ≤ cap) (hok : ∀ s ∈ l, SOk s) (hd : dchk l = 0) :
    Calls Tryz.prog 14 #[.slice ao l.length cap] w fun e w' => ∃ v, e = .returned (.tuple #[v, .int .i64 0]) ∧ S.OwnB w' w.heap.size v (l.map boxOf) ∧ Below w.heap.size w w' := by
  have h12 := (dchk_in hd).1
  have HC : Hid (Calls Tryz.prog 19 #[.slice ao l.length cap] w fun e w' => e = .returned (.int .i64 0) ∧ Below w.heap.size w w') := by
    have := deckCheck_any ao cap l w hL hcap (by omega) hok
    rw [hd] at this
    exact this
  have HL : Hid (Sts w ao l) := hL
  have HD : Hid (∀ k (hk : k < l.length), plc (l[k]'hk) = 0 ∧ chk (l[k]'hk).ware = 0 ∧ fit (l.take k) (l[k]'hk) = 0) := (dchk_in hd).2
  clear hL hok hd
  go_enter Tryz.func14, Tryz.ntmps14
  go_wp2_with fail
  refine Calls.mono HC.out ?_
  rintro e w1 ⟨rfl, hb1⟩
  have HB1 : Hid (Below w.heap.size w w1) := hb1
  clear hb1 HC
  go_wp2_with fail
  go_loopw [5, 17] (fun v i wr => ∃ k : Nat, k ≤ l.length ∧ i = .int .i64 k ∧ S.OwnB wr w.heap.size v ((l.map boxOf).take k) ∧ Below w.heap.size w wr) (fun _ i _ => l.length - (intOf i).toNat)
  case atStart => exact ⟨0, Nat.zero_le _, rfl, by simpa using S.OwnB.nil w1 w.heap.size, HB1.out⟩
  case round =>
    obtain ⟨k, hk, rfl, hown, hb⟩ := hrel
    obtain ⟨ao1, cap1, rfl, _, _⟩ := hown.shape
    have HTK : Hid (((l.map boxOf).take k).length = k) := by show _ = _; rw [List.length_take, List.length_map]; omega
    rw [HTK.out] at hown ⊢
    have HO : Hid (S.OwnB wr w.heap.size (.slice ao1 k cap1) ((l.map boxOf).take k)) := hown
    have HB : Hid (Below w.heap.size w wr) := hb
    clear hown hb
    by_cases hlt : k < l.length
    · obtain ⟨b, off, rfl, hbx⟩ := (HL.out.next HB.out).at hlt
      obtain ⟨hp, h0, _⟩ := HD.out k hlt
      have HTS : Hid ((l.map boxOf).take (k + 1) = (l.map boxOf).take k ++ [boxOf (l[k]'hlt)]) := by
        show _ = _
        rw [List.take_succ_eq_append_getElem (by simpa using hlt), List.getElem_map]
      generalize l[k]'hlt = s at *
      have HPL : Hid (1 ≤ s.slot ∧ s.slot ≤ 12) := ⟨(plc_in hp).1, (plc_in hp).2.1⟩
      have HIN : Hid (∀ m ∈ [cx s.slot, cy s.slot, 0, s.ware.wid, s.ware.len, s.ware.hei], 0 ≤ m ∧ m ≤ 1000000000000) := by
        obtain ⟨_, _, _, _, _, _, _, _, _, _, _, _, _, _, _, _, _, _⟩ := chk_inR h0
        have h5 := cx_in (n := s.slot)
        have h6 := cy_in HPL.out.1 HPL.out.2
        intro m hm
        simp only [List.mem_cons, List.mem_nil_iff, or_false] at hm
        rcases hm with e | e | e | e | e | e <;> omega
      obtain ⟨X, hX⟩ : ∃ X, X = cx s.slot := ⟨_, rfl⟩
      obtain ⟨Y, hY⟩ : ∃ Y, Y = cy s.slot := ⟨_, rfl⟩
      obtain ⟨X', hX'⟩ : ∃ X', X' = X + s.ware.wid := ⟨_, rfl⟩
      obtain ⟨Y', hY'⟩ : ∃ Y', Y' = Y + s.ware.len := ⟨_, rfl⟩
      obtain ⟨Z', hZ'⟩ : ∃ Z', Z' = 0 + s.ware.hei := ⟨_, rfl⟩
      have HBX : Hid (boxOf s = ⟨X, Y, 0, X', Y', Z'⟩) := by show _ = _; rw [hX', hY', hZ', hX, hY]; rfl
      have HCO : Hid (∀ W : World, Calls Tryz.prog 36 #[.int .i64 s.slot] W fun e w' => e = .returned (ptv X Y 0) ∧ Below W.heap.size W w') := fun W => by rw [hX, hY]; exact corner_any s.slot W HPL.out.1 HPL.out.2
      have HAD : Hid (∀ W : World, Calls Tryz.prog 37 #[ptv X Y 0, ptv s.ware.wid s.ware.len s.ware.hei] W fun e w' => e = .returned (ptv X' Y' Z') ∧ Below W.heap.size W w') := fun W => by
        rw [hX', hY', hZ', hX, hY]; exact added_any _ _ _ _ _ _ W HIN.out
      clear hX hY hX' hY' hZ' hp h0 HIN HPL
      obtain ⟨_, c0, c1, c2, c3, c4, c5, c6, c7, c8, c9, c10, c11, c12, c13⟩ := hbx
      have hki : (k : Int) < (l.length : Int) := by omega
      go_wp2_with fail
      refine Calls.mono (HCO.out (wr.alloc (sobj s))) ?_
      rintro e w2 ⟨rfl, hb2⟩
      have al : Below wr.heap.size wr (wr.alloc (sobj s)) := (Below.refl _ _).alloc (Nat.le_refl _) _
      have HB2 : Hid (Below w.heap.size w w2) := (HB.out.alloc HB.out.size _).trans (hb2.mono (by have := HB.out.size; simp; omega))
      have HO2 : Hid (S.OwnB w2 w.heap.size (.slice ao1 k cap1) ((l.map boxOf).take k)) := S.OwnB.later (S.OwnB.later HO.out al) hb2
      obtain ⟨ql, q0, q1, q2, q3, q4, q5, q6, q7, q8, q9, q10, q11, q12, q13⟩ := ((Sf.new wr s).later hb2).bx
      simp only [Nat.zero_add] at q1 q2 q3 q4 q5 q6 q7 q8 q9 q10 q11 q12 q13
      clear hb2 al HO HCO c0 c1 c2 c3 c4 c5 c6 c7 c8 c9 c10 c11 c12 c13
      go_wp2_with fail
      rename_i KK hkk
      have HKK := (show Hid _ from hkk)
      clear hkk q0 q1 q2 q3 q4 q5 q6 q7 q8 q9 q10 q11 q12 q13 ql
      obtain ⟨w3, hw3⟩ : ∃ w3, w3 = (w2.alloc (pto X Y 0)).alloc (pto s.ware.wid s.ware.len s.ware.hei) := ⟨_, rfl⟩
      have al2 : Below w2.heap.size w2 w3 := by rw [hw3]; exact ((Below.refl _ _).alloc (Nat.le_refl _) _).alloc (by simp) _
      have HB3 : Hid (Below w.heap.size w w3) := HB2.out.trans (al2.mono HB2.out.size)
      have HO3 : Hid (S.OwnB w3 w.heap.size (.slice ao1 k cap1) ((l.map boxOf).take k)) := S.OwnB.later HO2.out al2
      have TA : Hid (T3 w2.heap.size X Y 0 w3) := by show T3 _ _ _ _ _; rw [hw3]; exact (T3.new w2 X Y 0 29 _ rfl).later ((Below.refl _ _).alloc (Nat.le_refl _) _)
      have TB : Hid (T3 (w2.heap.size + 1) s.ware.wid s.ware.len s.ware.hei w3) := by show T3 _ _ _ _ _; rw [hw3]; exact T3.new (w2.alloc (pto X Y 0)) _ _ _ 29 _ (by simp)
      rw [← hw3]
      clear hw3 al2 HO2
      try rw [show decide ((k : Int) < (l.length : Int)) = true by simp; omega]
      refine region_seq 7 [false, false, false, false, false, false, false, false, false, false, false, false, false, false, false, false, false, false, false, false, false, false, false, false, false, false, false, false, false, false, false, false, false, false, true, true, true, true, true, true, true, false, false, false]
        [(34, [], none), (35, [], none), (36, [], none), (37, [], none), (38, [36, 37], none), (39, [35, 38], none), (40, [39], none)]
        (bxV X Y s.ware.wid s.ware.len s.ware.hei X' Y' Z' (.slice ao1 k cap1)) (by kernel_rfl) (by kernel_rfl) (by kernel_rfl) (by kernel_rfl) (by kernel_rfl) (by decide) (bxV_mono X Y s.ware.wid s.ware.len s.ware.hei X' Y' Z' (.slice ao1 k cap1)) ?_ ?_
      · refine ⟨?_, ?_, ?_, ?_, ?_, ?_, ?_, trivial⟩
        · intro f wz hb _ K hK
          simp only [over, overL, Nat.reduceAdd]
          go_simp
          exact hK _ _ ⟨_, rfl, by simp only [over, overL, Nat.reduceAdd]; rfl, Below.refl _ _⟩
        · intro f wz hb _ K hK
          obtain ⟨_, t0, t1, t2, _, _, _⟩ := TA.out.later hb
          simp only [over, overL, Nat.reduceAdd]
          go_simp
          exact hK _ _ ⟨_, rfl, by simp only [over, overL, Nat.reduceAdd]; rfl, Below.refl _ _⟩
        · intro f wz hb _ K hK
          obtain ⟨_, t0, t1, t2, _, _, _⟩ := TA.out.later hb
          simp only [over, overL, Nat.reduceAdd]
          go_simp
          exact hK _ _ ⟨_, rfl, by simp only [over, overL, Nat.reduceAdd]; rfl, Below.refl _ _⟩
        · intro f wz hb _ K hK
          obtain ⟨_, t0, t1, t2, _, _, _⟩ := TB.out.later hb
          simp only [over, overL, Nat.reduceAdd]
          go_simp
          exact hK _ _ ⟨_, rfl, by simp only [over, overL, Nat.reduceAdd]; rfl, Below.refl _ _⟩
        · intro f wz hb ⟨h36, h37, _⟩ K hK
          have h36 : f 36 = _ := h36
          have h37 : f 37 = _ := h37
          simp only [over, overL, Nat.reduceAdd, h36, h37]
          go_simp
          refine Calls.mono (HAD.out _) ?_
          rintro e w9 ⟨rfl, hb9⟩
          exact hK _ _ ⟨_, rfl, by simp only [over, overL, Nat.reduceAdd, h36, h37]; rfl, hb9⟩
        · intro f wz hb ⟨h35, h38, _⟩ K hK
          have h35 : f 35 = _ := h35
          have h38 : f 38 = _ := h38
          simp only [over, overL, Nat.reduceAdd, h35, h38]
          go_simp
          exact hK _ _ ⟨_, rfl, by simp only [over, overL, Nat.reduceAdd, h35, h38]; rfl, Below.refl _ _⟩
        · intro f wz hb ⟨h39, _⟩ K hK
          have h39 : f 39 = _ := h39
          simp only [over, overL, Nat.reduceAdd, h39]
          go_simp
          exact hK _ _ ⟨_, ⟨wz.heap.size, rfl, S.Bxs.one wz ⟨X, Y, 0, X', Y', Z'⟩⟩, by simp only [over, overL, Nat.reduceAdd, h39]; rfl, (Below.refl _ _).alloc (Nat.le_refl _) _⟩
      intro f w4 hb4 hv
      have h34 : f 34 = .slice ao1 k cap1 := hv.1
      obtain ⟨nb, h40, hq⟩ := (show IsBx ⟨X, Y, 0, X', Y', Z'⟩ (f 40) w4 from hv.2.2.2.2.2.2.1)
      have HB4 : Hid (Below w.heap.size w w4) := HB3.out.trans (hb4.mono HB3.out.size)
      have HO4 : Hid (S.OwnB w4 w.heap.size (.slice ao1 k cap1) ((l.map boxOf).take k)) := S.OwnB.later HO3.out hb4
      have HQ : Hid (S.Bxs w4 (some ⟨nb, 0, none⟩) [⟨X, Y, 0, X', Y', Z'⟩]) := hq
      clear hb4 hv HAD TA TB HO3 hq
      simp only [over, overL, h34, h40, Nat.reduceAdd, List.drop_succ_cons, List.drop_zero]
      clear h34 h40
      refine wpList_append_box w4 rfl (.tmp 34) (.tmp 40) rfl w.heap.size (.slice ao1 k cap1) ((l.map boxOf).take k) rfl HO4.out ⟨X, Y, 0, X', Y', Z'⟩ ⟨nb, 0, none⟩ rfl HQ.out (by rw [HTK.out]; omega) HB4.out.size ?_
      intro v' w5 hown1 hg
      have HB5 : Hid (Below w.heap.size w w5) := below_owns HB4.out HO4.out hg HB4.out.size
      have HO5 : Hid (S.OwnB w5 w.heap.size v' ((l.map boxOf).take (k + 1))) := by show S.OwnB _ _ _ _; rw [HTS.out, HBX.out]; exact hown1
      clear hown1 hg
      simp only [Act.put, List.setIfInBounds_toArray, List.set_cons_succ, List.set_cons_zero]
      go_wp2_with fail
      refine HKK.out _ _ ?_
      go_wp2
      go_roundw
      case rel => exact ⟨k + 1, by omega, by go_num, HO5.out, HB5.out⟩
      case measure => simp [intOf]; omega
    · have HE : Hid ((l.map boxOf).take k = l.map boxOf) := by show _ = _; exact List.take_of_length_le (by simp; omega)
      go_wp2
      refine bodyPost_ret (v := .tuple #[.slice ao1 k cap1, .int .i64 0]) (by simp [results, Tryz.results14, go_sem]) rfl ⟨_, rfl, ?_, HB.out⟩
      have := HO.out
      rwa [HE.out] at this


end Go.Proofs.YtcajifelbldjnaaGreat

/- refusal, path.Check walked. -/
namespace Go.Proofs.YtcajifelbldjnaaGreat.S
open Go.RowKit
theorem Pns.two (w : World) (p q : Pt) : Pns (w.alloc (.cells #[.int .i64 p.x, .int .i64 p.y, .int .i64 p.z, .int .i64 q.x, .int .i64 q.y, .int .i64 q.z] 29)) (some ⟨w.heap.size, 0, none⟩) [p, q] := by
  refine .inr ⟨w.heap.size, 0, rfl, fun k hk => ?_⟩
  match k, hk with
  | 0, _ => exact ⟨by simp, by go_simp, by go_simp, by go_simp⟩
  | 1, _ => exact ⟨by simp, by go_simp, by go_simp, by go_simp⟩
/-- A deck in memory, as it is handed in. -/
structure Dk (w : World) (ao : Option Addr) (cap : Nat) (d : List Sit) : Prop where
  sts : Sts w ao d
  cap : d.length ≤ cap
  len : d.length ≤ 9223372036854775807
  ok : ∀ s ∈ d, SOk s
theorem Dk.next {w w1 : World} {ao : Option Addr} {cap : Nat} {d : List Sit} (h : Dk w ao cap d) (hb : Below w.heap.size w w1) : Dk w1 ao cap d := ⟨h.sts.next hb, h.cap, h.len, h.ok⟩
/-- What is wrong with a deck, with points and a tool. -/
def refuseR (d : List Sit) (t : Bx) (l : List Pt) : Int := if dchk d = 0 then (if l.all nearP = true ∧ nearB t = true then (if toolB t = true then 0 else 1) else 2) else dchk d
set_option maxHeartbeats 3200000 in
theorem prefusal_any (ao ao' : Option Addr) (cap cap' : Nat) (d : List Sit) (t : Bx) (l : List Pt) (w : World) (hD : Dk w ao cap d) (hL : Pns w ao' l) (hl : l.length ≤ 9223372036854775807) :
    Calls Tryz.prog 10 #[.slice ao d.length cap, bv t, .slice ao' l.length cap'] w fun e w' => e = .returned (.int .i64 (refuseR d t l)) ∧ Below w.heap.size w w' := by
  have HL : Hid (Pns w ao' l) := hL
  have HC : Hid (∀ W, Dk W ao cap d → Calls Tryz.prog 19 #[.slice ao d.length cap] W fun e w' => e = .returned (.int .i64 (dchk d)) ∧ Below W.heap.size W w') := fun W h => deckCheck_any ao cap d W h.sts h.cap h.len h.ok
  have HD : Hid (Dk w ao cap d) := hD
  have HR : Hid (refuseR d t l = if dchk d = 0 then (if l.all nearP = true ∧ nearB t = true then (if toolB t = true then 0 else 1) else 2) else dchk d) := rfl
  clear hL hD
  generalize dchk d = e0 at *
  have b0 : Below w.heap.size w (w.alloc (bo t)) := (Below.refl _ _).alloc (Nat.le_refl _) _
  have HB0 : Hid (Below w.heap.size w (w.alloc (bo t))) := b0
  have KT : Hid (Bk w.heap.size (bcl t) (w.alloc (bo t))) := Bk.new w (bcl t) 35 w.heap.size rfl
  clear b0
  go_enter Tryz.func10, Tryz.ntmps10
  go_wp2_with fail
  refine Calls.mono (HC.out _ (HD.out.next HB0.out)) ?_
  rintro e w1 ⟨rfl, hb1⟩
  have HB1 : Hid (Below w.heap.size w w1) := HB0.out.trans (hb1.mono HB0.out.size)
  have KT1 : Hid (Bk w.heap.size (bcl t) w1) := KT.out.later hb1
  clear hb1 KT
  by_cases he : e0 = 0
  · subst he
    go_wp2_with fail
    refine Calls.mono (pnear_any ao' cap' l w1 (HL.out.next HB1.out) hl) ?_
    rintro e w2 ⟨rfl, hb2⟩
    have HB2 : Hid (Below w.heap.size w w2) := HB1.out.trans (hb2.mono HB1.out.size)
    have KT2 : Hid (Bk w.heap.size (bcl t) w2) := KT1.out.later hb2
    clear hb2
    cases hn : l.all nearP with
    | false =>
      have HF : Hid (refuseR d t l = 2) := by show _ = _; have := HR.out; simpa [hn] using this
      clear hn
      go_wp2
      go_ret
      exact ⟨ret_int HF.out.symm, HB2.out⟩
    | true =>
      have HF : Hid (refuseR d t l = if nearB t = true then (if toolB t = true then 0 else 1) else 2) := by show _ = _; have := HR.out; simpa [hn] using this
      clear hn HR
      have t0 := (KT2.out).c 0 rfl
      have t1 := (KT2.out).c 1 rfl
      have t2 := (KT2.out).c 2 rfl
      have t3 := (KT2.out).c 3 rfl
      have t4 := (KT2.out).c 4 rfl
      have t5 := (KT2.out).c 5 rfl
      have hlt : w.heap.size < w2.heap.size := KT2.out.1
      have HN2 : Hid ([t.lo, t.hi].all nearP = nearB t) := by show _ = _; simp [nearB]
      have HP : Hid (Pns (w2.alloc (bp t)) (some ⟨w2.heap.size, 0, none⟩) [t.lo, t.hi]) := Pns.two w2 t.lo t.hi
      have b3 : Below w2.heap.size w2 (w2.alloc (bp t)) := (Below.refl _ _).alloc (Nat.le_refl _) _
      have HB3 : Hid (Below w.heap.size w (w2.alloc (bp t))) := HB2.out.trans (b3.mono HB2.out.size)
      have KT3 : Hid (Bk w.heap.size (bcl t) (w2.alloc (bp t))) := KT2.out.later b3
      clear b3
      go_wp2_with fail
      refine Calls.mono (pnear_any (some ⟨w2.heap.size, 0, none⟩) 2 [t.lo, t.hi] (w2.alloc (bp t)) HP.out (by simp)) ?_
      rintro e w4 ⟨rfl, hb4⟩
      rw [HN2.out]
      have HB4 : Hid (Below w.heap.size w w4) := HB3.out.trans (hb4.mono HB3.out.size)
      have KT4 : Hid (Bk w.heap.size (bcl t) w4) := KT3.out.later hb4
      clear hb4 t0 t1 t2 t3 t4 t5
      cases hn : nearB t with
      | false =>
        have HG : Hid (refuseR d t l = 2) := by show _ = _; have := HF.out; simpa [hn] using this
        clear hn
        go_wp2
        go_ret
        exact ⟨ret_int HG.out.symm, HB4.out⟩
      | true =>
        have HG : Hid (refuseR d t l = if toolB t = true then 0 else 1) := by show _ = _; have := HF.out; simpa [hn] using this
        clear hn
        have t0 := (KT4.out).c 0 rfl
        have t1 := (KT4.out).c 1 rfl
        have t2 := (KT4.out).c 2 rfl
        have t3 := (KT4.out).c 3 rfl
        have t4 := (KT4.out).c 4 rfl
        have t5 := (KT4.out).c 5 rfl
        go_wp2_with fail
        refine Calls.mono (isTool_any t w4) ?_
        rintro e w5 ⟨rfl, hb5⟩
        have HB5 : Hid (Below w.heap.size w w5) := HB4.out.trans (hb5.mono HB4.out.size)
        clear hb5
        cases hn : toolB t with
        | false =>
          have HE : Hid (refuseR d t l = 1) := by show _ = _; have := HG.out; simpa [hn] using this
          clear hn
          go_wp2
          go_ret
          exact ⟨ret_int HE.out.symm, HB5.out⟩
        | true =>
          have HE : Hid (refuseR d t l = 0) := by show _ = _; have := HG.out; simpa [hn] using this
          clear hn
          go_wp2
          go_ret
          exact ⟨ret_int HE.out.symm, HB5.out⟩
  · have HF : Hid (refuseR d t l = e0) := by show _ = _; have := HR.out; simpa [he] using this
    have hne : (e0 != 0) = true := by simp [he]
    clear he
    go_wp2
    go_ret
    exact ⟨ret_int HF.out.symm, HB1.out⟩
/-- What path.Check answers. -/
def checkR (d : List Sit) (t : Bx) (way : List Pt) : Int × Int :=
  if refuseR d t way = 0 then (if way.any (farB t) = true then (0, 2) else if way.length = 0 ∨ 1000 < way.length then (0, 7) else if slant way = true then (0, 6) else (wrongL (d.map boxOf) t way, 0)) else (0, refuseR d t way)
theorem refuse_zero {d : List Sit} {t : Bx} {l : List Pt} (h : refuseR d t l = 0) : dchk d = 0 ∧ (∀ p ∈ l, nearP p = true) ∧ nearB t = true ∧ toolB t = true := by
  unfold refuseR at h
  by_cases h1 : dchk d = 0
  · rw [if_pos h1] at h
    by_cases h2 : l.all nearP = true ∧ nearB t = true
    · rw [if_pos h2] at h
      by_cases h3 : toolB t = true
      · exact ⟨h1, List.all_eq_true.1 h2.1, h2.2, h3⟩
      · rw [if_neg h3] at h; omega
    · rw [if_neg h2] at h; omega
  · rw [if_neg h1] at h; omega
set_option maxHeartbeats 6400000 in
set_option maxRecDepth 100000 in
theorem pcheck_any (ao ao' : Option Addr) (cap cap' : Nat) (d : List Sit) (t : Bx) (way : List Pt) (w : World) (hD : Dk w ao cap d) (hL : Pns w ao' way) (hl : way.length ≤ 9223372036854775807) :
    Calls Tryz.prog 5 #[.slice ao d.length cap, bv t, .slice ao' way.length cap'] w fun e w' => e = .returned (.tuple #[.int .i64 (checkR d t way).1, .int .i64 (checkR d t way).2]) ∧ Below w.heap.size w w' := by
  have HL : Hid (Pns w ao' way) := hL
  have HD : Hid (Dk w ao cap d) := hD
  have HR : Hid (checkR d t way = if refuseR d t way = 0 then (if way.any (farB t) = true then (0, 2) else if way.length = 0 ∨ 1000 < way.length then (0, 7) else if slant way = true then (0, 6) else (wrongL (d.map boxOf) t way, 0)) else (0, refuseR d t way)) := rfl
  have HZ : Hid (refuseR d t way = 0 → dchk d = 0 ∧ (∀ p ∈ way, nearP p = true) ∧ nearB t = true ∧ toolB t = true) := refuse_zero
  have HF : Hid (∀ W, Dk W ao cap d → Pns W ao' way → Calls Tryz.prog 10 #[.slice ao d.length cap, bv t, .slice ao' way.length cap'] W fun e w' => e = .returned (.int .i64 (refuseR d t way)) ∧ Below W.heap.size W w') := fun W h1 h2 => prefusal_any ao ao' cap cap' d t way W h1 h2 hl
  clear hL hD
  generalize refuseR d t way = e0 at *
  have b0 : Below w.heap.size w (w.alloc (bo t)) := (Below.refl _ _).alloc (Nat.le_refl _) _
  have HB0 : Hid (Below w.heap.size w (w.alloc (bo t))) := b0
  have KT : Hid (Bk w.heap.size (bcl t) (w.alloc (bo t))) := Bk.new w (bcl t) 35 w.heap.size rfl
  clear b0
  go_enter Tryz.func5, Tryz.ntmps5
  go_wp2_with fail
  refine Calls.mono (HF.out _ (HD.out.next HB0.out) (HL.out.next HB0.out)) ?_
  rintro e w1 ⟨rfl, hb1⟩
  have HB1 : Hid (Below w.heap.size w w1) := HB0.out.trans (hb1.mono HB0.out.size)
  have KT1 : Hid (Bk w.heap.size (bcl t) w1) := KT.out.later hb1
  clear hb1 KT HF
  by_cases he : e0 = 0
  · subst he
    obtain ⟨hz1, hz2, _, _⟩ := HZ.out rfl
    have HD0 : Hid (dchk d = 0) := hz1
    have HNR : Hid (∀ p ∈ way, nearP p = true) := hz2
    clear hz1 hz2 HZ
    have t0 := (KT1.out).c 0 rfl
    have t1 := (KT1.out).c 1 rfl
    have t2 := (KT1.out).c 2 rfl
    have t3 := (KT1.out).c 3 rfl
    have t4 := (KT1.out).c 4 rfl
    have t5 := (KT1.out).c 5 rfl
    go_wp2_with fail
    refine Calls.mono (tooFar_any t w1) ?_
    rintro e w2 ⟨rfl, rfl⟩
    have b2 : Below w1.heap.size w1 (w1.alloc (bo t)) := (Below.refl _ _).alloc (Nat.le_refl _) _
    have HB2 : Hid (Below w.heap.size w (w1.alloc (bo t))) := HB1.out.trans (b2.mono HB1.out.size)
    have KT2 : Hid (Bk w.heap.size (bcl t) (w1.alloc (bo t))) := KT1.out.later b2
    clear b2 t0 t1 t2 t3 t4 t5
    go_wp2_with fail
    refine Calls.mono (far_any ao' cap' way t w1.heap.size (w1.alloc (bo t)) (bo_at w1 t) (HL.out.next HB2.out) hl) ?_
    rintro e w3 ⟨rfl, hb3⟩
    have HB3 : Hid (Below w.heap.size w w3) := HB2.out.trans (hb3.mono HB2.out.size)
    have KT3 : Hid (Bk w.heap.size (bcl t) w3) := KT2.out.later hb3
    clear hb3
    cases hf : way.any (farB t) with
    | true =>
      have HE : Hid (checkR d t way = (0, 2)) := by show _ = _; have := HR.out; simpa [hf] using this
      clear hf
      go_wp2
      refine bodyPost_ret (v := .tuple #[.int .i64 0, .int .i64 2]) (by simp [results, Tryz.results5, go_sem]) rfl ⟨by rw [HE.out], HB3.out⟩
    | false =>
      have HR2 : Hid (checkR d t way = if way.length = 0 ∨ 1000 < way.length then (0, 7) else if slant way = true then (0, 6) else (wrongL (d.map boxOf) t way, 0)) := by show _ = _; have := HR.out; simpa [hf] using this
      clear hf HR
      by_cases h0 : way.length = 0
      · have HE : Hid (checkR d t way = (0, 7)) := by show _ = _; have := HR2.out; simpa [h0] using this
        have hd0 : ((way.length : Int) == 0) = true := beq_iff_eq.2 (by omega)
        have HN0 : Hid (way.length = 0) := h0
        clear h0
        go_wp2
        refine bodyPost_ret (v := .tuple #[.int .i64 0, .int .i64 7]) (by simp [results, Tryz.results5, go_sem]) rfl ⟨by rw [HE.out], HB3.out⟩
      · have hd0 : ((way.length : Int) == 0) = false := beq_eq_false_iff_ne.2 (by omega)
        have HN0 : Hid (way.length ≠ 0) := h0
        by_cases h1 : 1000 < way.length
        · have HE : Hid (checkR d t way = (0, 7)) := by show _ = _; have := HR2.out; simpa [h1] using this
          clear h0
          go_wp2
          refine bodyPost_ret (v := .tuple #[.int .i64 0, .int .i64 7]) (by simp [results, Tryz.results5, go_sem]) rfl ⟨by rw [HE.out], HB3.out⟩
        · have HE1 : Hid (checkR d t way = if slant way = true then (0, 6) else (wrongL (d.map boxOf) t way, 0)) := by show _ = _; rw [HR2.out, if_neg (by omega)]
          clear h0 HR2
          go_wp2_with fail
          refine Calls.mono (isSlanting_any ao' cap' way w3 (HL.out.next HB3.out) hl (fun p hp => nearP_sm (HNR.out p hp))) ?_
          rintro e w4 ⟨rfl, hb4⟩
          have HB4 : Hid (Below w.heap.size w w4) := HB3.out.trans (hb4.mono HB3.out.size)
          have KT4 : Hid (Bk w.heap.size (bcl t) w4) := KT3.out.later hb4
          clear hb4
          cases hs : slant way with
          | true =>
            have HE : Hid (checkR d t way = (0, 6)) := by show _ = _; have := HE1.out; simpa [hs] using this
            clear hs
            go_wp2
            refine bodyPost_ret (v := .tuple #[.int .i64 0, .int .i64 6]) (by simp [results, Tryz.results5, go_sem]) rfl ⟨by rw [HE.out], HB4.out⟩
          | false =>
            have HE : Hid (checkR d t way = (wrongL (d.map boxOf) t way, 0)) := by show _ = _; have := HE1.out; simpa [hs] using this
            have HBX := (show Hid _ from boxes_ok ao cap d w4 (HD.out.next HB4.out).sts HD.out.cap HD.out.ok HD0.out)
            clear hs HE1
            go_wp2_with fail
            refine Calls.mono HBX.out ?_
            rintro e w5 ⟨v, rfl, hown, hb5⟩
            obtain ⟨aoB, capB, rfl, hbxs, _⟩ := OwnB.shape hown
            have HB5 : Hid (Below w.heap.size w w5) := HB4.out.trans (hb5.mono HB4.out.size)
            have KT5 : Hid (Bk w.heap.size (bcl t) w5) := KT4.out.later hb5
            have HBS : Hid (Bxs w5 aoB (d.map boxOf)) := hbxs
            have HBL : Hid ((d.map boxOf).length ≤ 9223372036854775807) := by show _ ≤ _; rw [List.length_map]; exact HD.out.len
            clear hb5 hown hbxs HBX
            generalize d.map boxOf = bs at *
            have t0 := (KT5.out).c 0 rfl
            have t1 := (KT5.out).c 1 rfl
            have t2 := (KT5.out).c 2 rfl
            have t3 := (KT5.out).c 3 rfl
            have t4 := (KT5.out).c 4 rfl
            have t5 := (KT5.out).c 5 rfl
            go_wp2_with fail
            refine Calls.mono (firstWrong_any aoB ao' capB cap' bs t way w5 HBS.out HBL.out (HL.out.next HB5.out) hl (fun e => HN0.out (by rw [e]; rfl))) ?_
            rintro e w6 ⟨rfl, hb6⟩
            have HB6 : Hid (Below w.heap.size w w6) := HB5.out.trans (hb6.mono HB5.out.size)
            clear hb6
            generalize wrongL bs t way = r at *
            go_wp2
            refine bodyPost_ret (v := .tuple #[.int .i64 r, .int .i64 0]) (by simp [results, Tryz.results5, go_sem]) rfl ⟨by rw [HE.out], HB6.out⟩
  · have HE : Hid (checkR d t way = (0, e0)) := by show _ = _; have := HR.out; simpa [he] using this
    have hne : (e0 != 0) = true := by simp [he]
    clear he
    go_wp2
    refine bodyPost_ret (v := .tuple #[.int .i64 0, .int .i64 e0]) (by simp [results, Tryz.results5, go_sem]) rfl ⟨by rw [HE.out], HB1.out⟩
end Go.Proofs.YtcajifelbldjnaaGreat.S

/- High above the deck a point meets nothing; what Compile tells in all. -/
namespace Go.Proofs.YtcajifelbldjnaaGreat
open Go.RowKit Go.Maps
namespace S
theorem atMostB_iff {b : Bx} : atMost b.lo b.hi = true ↔ b.lx ≤ b.hx ∧ b.ly ≤ b.hy ∧ b.lz ≤ b.hz := by
  simp only [atMost, Bool.and_eq_true, decide_eq_true_eq, and_assoc]
theorem meet_z {a b : Bx} (h : meet a b = true) : b.lz < a.hz := by
  simp only [meet, below, Bool.and_eq_true, decide_eq_true_eq] at h
  exact h.2.2
theorem near_hi {p : Pt} (h : (0 ≤ p.x ∧ p.x ≤ 1000000) ∧ (0 ≤ p.y ∧ p.y ≤ 1000000)) (hz : p.z = 200000) : nearP p = true := by
  simp only [nearP, nr, Bool.and_eq_true, decide_eq_true_eq]
  omega
theorem mov_zB {p : Pt} (h : nearP p = true) : moveR zB p = (⟨p.x, p.y, p.z, p.x, p.y, p.z⟩, 0) := by
  have h1 : bad1 zB = 0 := by decide
  have h2 : movB zB p = ⟨p.x, p.y, p.z, p.x, p.y, p.z⟩ := by simp [movB]
  have h3 : nearB (movB zB p) = true := by rw [h2]; unfold nearB; simp only [Bx.lo, Bx.hi]; rw [h]; rfl
  unfold moveR
  rw [if_pos h1, if_pos h, if_pos h3, h2]
theorem far_zB {p : Pt} (h : nearP p = true) : farB zB p = false := by
  unfold farB
  rw [mov_zB h]
  rfl
theorem bad_pt {p : Pt} (h : nearP p = true) : bad1 ⟨p.x, p.y, p.z, p.x, p.y, p.z⟩ = 0 := by
  rw [bad1_ok]
  refine ⟨by unfold nearB; simp only [Bx.lo, Bx.hi]; rw [h]; rfl, by simp [atMost]⟩
/-- No ware is higher. -/
def Flat (l : List Bx) : Prop := ∀ b ∈ l, b.hz ≤ 200000
theorem met_no {l : List Bx} (hl : Flat l) {p q : Pt} (hp : nearP p = true) (hq : nearP q = true) (zp : p.z = 200000) (zq : q.z = 200000) (h12 : l.length ≤ 40) (hb : badL l = 0) : metB l zB p q = false := by
  have hsw : sweepT zB p q = (hullB ⟨p.x, p.y, p.z, p.x, p.y, p.z⟩ ⟨q.x, q.y, q.z, q.x, q.y, q.z⟩, 0) := by
    unfold sweepT
    rw [mov_zB hp, mov_zB hq, if_pos rfl, if_pos rfl]
    unfold hullR
    rw [badL_two, bad_pt hp, if_pos rfl, bad_pt hq, if_pos rfl]
  have hbad : badL [hullB ⟨p.x, p.y, p.z, p.x, p.y, p.z⟩ ⟨q.x, q.y, q.z, q.x, q.y, q.z⟩] = 0 := by
    rw [badL_one, bad1_ok]
    rw [nearP_iff] at hp hq
    rw [nearB_iff, atMostB_iff]
    simp only [hullB]
    omega
  unfold metB
  rw [hsw]
  unfold firstR
  rw [if_pos (rlist_zero.2 ⟨h12, hb, hbad⟩)]
  have : firstI l (hullB ⟨p.x, p.y, p.z, p.x, p.y, p.z⟩ ⟨q.x, q.y, q.z, q.x, q.y, q.z⟩) = -1 := by
    unfold firstI
    refine idx_miss fun b hb2 => ?_
    have h3 := hl b hb2
    cases e : meet b (hullB ⟨p.x, p.y, p.z, p.x, p.y, p.z⟩ ⟨q.x, q.y, q.z, q.x, q.y, q.z⟩) with
    | false => rfl
    | true =>
      have e2 := meet_z e
      simp only [hullB] at e2
      omega
  simp only [this]
  decide
end S
theorem deck_boxes {d : List Sit} (hd : dchk d = 0) : S.Flat (d.map boxOf) ∧ (d.map boxOf).length ≤ 40 ∧ S.badL (d.map boxOf) = 0 := by
  refine ⟨fun b hb => ?_, by rw [List.length_map]; have := dk_len hd; omega, S.badL_zero.2 fun b hb => ?_⟩
  · obtain ⟨s, hs, rfl⟩ := List.mem_map.1 hb
    have hin := chk_inR (dchk_ware hd hs).1
    show 0 + s.ware.hei ≤ 200000
    obtain ⟨_, _, _, _, _, _, _, _, _, _, _, _, _, _, _, _, _, _⟩ := hin
    omega
  · obtain ⟨s, hs, rfl⟩ := List.mem_map.1 hb
    have hin := chk_inR (dchk_ware hd hs).1
    have h1 := (dchk_ware hd hs).2
    have h5 := cx_in (n := s.slot)
    have h6 := cy_in h1.1 h1.2
    rw [S.bad1_ok]
    obtain ⟨_, _, _, _, _, _, _, _, _, _, _, _, _, _, _, _, _, _⟩ := hin
    rw [S.nearB_iff, S.atMostB_iff]
    simp only [boxOf]
    omega
/-- Across just high above the deck no ware is met. -/
theorem check_high {d : List Sit} (hd : dchk d = 0) {p q : S.Pt} (hp : (0 ≤ p.x ∧ p.x ≤ 1000000) ∧ (0 ≤ p.y ∧ p.y ≤ 1000000)) (hq : (0 ≤ q.x ∧ q.x ≤ 1000000) ∧ (0 ≤ q.y ∧ q.y ≤ 1000000)) (zp : p.z = 200000) (zq : q.z = 200000) : S.checkR d S.zB [p, ⟨q.x, p.y, p.z⟩, q] = (-1, 0) := by
  obtain ⟨h1, h2, h3⟩ := deck_boxes hd
  have np := S.near_hi hp zp
  have nq := S.near_hi hq zq
  have nm : S.nearP ⟨q.x, p.y, p.z⟩ = true := S.near_hi ⟨hq.1, hp.2⟩ zp
  have hr : S.refuseR d S.zB [p, ⟨q.x, p.y, p.z⟩, q] = 0 := by
    unfold S.refuseR
    rw [if_pos hd, if_pos ⟨by simp [np, nq, nm], by decide⟩, if_pos (by decide)]
  have hf : ([p, ⟨q.x, p.y, p.z⟩, q] : List S.Pt).any (S.farB S.zB) = false := by simp [S.far_zB np, S.far_zB nq, S.far_zB nm]
  have hs : S.slant [p, ⟨q.x, p.y, p.z⟩, q] = false := by
    have e : ∀ n : Int, S.one n = 0 ∨ S.one n = 1 := fun n => by unfold S.one; split <;> simp
    have z0 : S.one (0 : Int) = 0 := rfl
    have a1 := e (q.x - p.x)
    have a2 := e (q.y - p.y)
    have t1 : S.turnsN p ⟨q.x, p.y, p.z⟩ ≤ 1 := by
      unfold S.turnsN
      simp only [Int.sub_self, z0]
      omega
    have t2 : S.turnsN ⟨q.x, p.y, p.z⟩ q ≤ 1 := by
      have ez : q.z - p.z = 0 := by omega
      unfold S.turnsN
      simp only [ez, Int.sub_self, z0]
      omega
    have hst : S.stepsL [p, ⟨q.x, p.y, p.z⟩, q] = [(p, ⟨q.x, p.y, p.z⟩), (⟨q.x, p.y, p.z⟩, q)] := rfl
    unfold S.slant
    rw [hst, List.any_eq_false]
    intro x hx
    rw [decide_eq_true_eq]
    simp only [List.mem_cons, List.mem_nil_iff, or_false] at hx
    rcases hx with rfl | rfl
    · show ¬ 1 < S.turnsN p ⟨q.x, p.y, p.z⟩
      omega
    · show ¬ 1 < S.turnsN ⟨q.x, p.y, p.z⟩ q
      omega
  have hw : S.wrongL (d.map boxOf) S.zB [p, ⟨q.x, p.y, p.z⟩, q] = -1 := by
    simp only [S.wrongL, S.wrongG]
    rw [S.met_no h1 np np zp zp h2 h3, S.met_no h1 np nm zp zp h2 h3, S.met_no h1 nm nq zp zq h2 h3]
    rfl
  unfold S.checkR
  rw [if_pos hr, hf, hs, hw]
  rfl
theorem Compile_all (ao : Option Addr) (cap : Nat) (l : List Sit) (aoA : Option Addr) (capA : Nat) (acs : List Acn) (w : World) (hD : Dk w ao cap l) (hl : l.length ≤ 9223372036854775807) (hA : Acs w aoA acs) (hla : acs.length ≤ 10000000) :
    Calls Tryz.prog 4 #[.slice ao l.length cap, .slice aoA acs.length capA] w fun e w' => ∃ ls aoC nC capC, (dchk l = 0 → ls.Perm l) ∧ e = .returned (.tuple #[.slice aoC nC capC, .int .i64 ((compR l ls acs).2.1 : Int), .int .i64 (compR l ls acs).2.2]) ∧ OwnR encK w' w.heap.size (.slice aoC nC capC) (compR l ls acs).1 ∧ Below w.heap.size w w' := by
  by_cases hd : dchk l = 0
  · by_cases hr : (runR l acs).2.2 = 0
    · refine (compile_ok ao cap l aoA capA acs w hD hA hla hd hr).mono ?_
      rintro e w' ⟨ls, aoC, nC, capC, h1, h2, h3, h4⟩
      exact ⟨ls, aoC, nC, capC, fun _ => h1, h2, h3, h4⟩
    · refine (compile_err2 ao cap l aoA capA acs w hD hA hla hd hr).mono ?_
      rintro e w' ⟨rfl, h⟩
      have e1 : compR l l acs = ([], (runR l acs).2.1, (runR l acs).2.2) := by unfold compR; rw [if_neg (by simp [hd]), if_pos hr]
      exact ⟨l, none, 0, 0, fun _ => List.Perm.refl _, by rw [e1], by rw [e1]; exact OwnR.nil _ _ _, h⟩
  · refine (compile_err1 ao cap l aoA capA acs w hD hl hd).mono ?_
    rintro e w' ⟨rfl, h⟩
    have e1 : compR l l acs = ([], 0, dchk l) := by unfold compR; rw [if_pos hd]
    exact ⟨l, none, 0, 0, fun _ => List.Perm.refl _, by rw [e1]; rfl, by rw [e1]; exact OwnR.nil _ _ _, h⟩
theorem compR_nil (ls : List Sit) : compR [] ls [] = (cst0.cs, 0, 0) := rfl
/-- With an error nothing is told; without one it goes across just high above the deck. -/
theorem compR_high {l ls : List Sit} {acs : List Acn} (hp : dchk l = 0 → ls.Perm l) (hok : ∀ s ∈ l, SOk s) : ((compR l ls acs).2.2 ≠ 0 ∧ (compR l ls acs).1 = []) ∨ ((compR l ls acs).2.2 = 0 ∧ dchk l = 0 ∧ highC ⟨0, 0, 0⟩ (compR l ls acs).1) := by
  unfold compR
  split
  · rename_i h; exact .inl ⟨h, rfl⟩
  · rename_i h
    have hd : dchk l = 0 := Classical.not_not.1 h
    split
    · rename_i h2; exact .inl ⟨h2, rfl⟩
    · split
      · have hss : ∀ s ∈ ls, StOk s := fun s hs => st_ok hd hok s ((hp hd).subset hs)
        exact .inr ⟨rfl, hd, (comp_csOk (fun p => (ptQ_in hss p).1) acs cst0 0 csOk0).1⟩
      · rename_i h3; exact .inl ⟨h3, rfl⟩
end Go.Proofs.YtcajifelbldjnaaGreat

/- CellHigh walked. -/
namespace Go.Proofs.YtcajifelbldjnaaGreat
open Go.RowKit Go.Maps
theorem rdK_at {w : World} {ao : Option Addr} {cs : List Cd} (h : RdR encK w ao cs) {k : Nat} (hk : k < cs.length) : ∃ g off, ao = some ⟨g, off, none⟩ ∧ g < w.heap.size ∧ w.cell? ⟨g, off + k * 5, none⟩ = some (.int .i64 (cs[k]'hk).k) ∧ w.cell? ⟨g, off + k * 5 + 1, none⟩ = some (.int .i64 (cs[k]'hk).x) ∧ w.cell? ⟨g, off + k * 5 + 2, none⟩ = some (.int .i64 (cs[k]'hk).y) ∧ w.cell? ⟨g, off + k * 5 + 3, none⟩ = some (.int .i64 (cs[k]'hk).z) := by
  rcases h with h | ⟨g, off, e, hg, hc⟩
  · subst h; simp at hk
  · exact ⟨g, off, e, hg, hc k hk 0 (by decide), hc k hk 1 (by decide), hc k hk 2 (by decide), hc k hk 3 (by decide)⟩
theorem rdK_kpt {M : Nat → Prop} {w w1 : World} {ao : Option Addr} {cs : List Cd} (h : RdR encK w ao cs) (hk : Kpt M w w1) (hM : ∀ ad, ao = some ad → ¬ M ad.block) : RdR encK w1 ao cs := by
  rcases h with h | ⟨g, off, e, hg, hc⟩
  · exact .inl h
  · have hb := hk.block g hg (hM _ e)
    exact .inr ⟨g, off, e, Nat.lt_of_lt_of_le hg hk.size, fun k hk2 j hj => (World.cell?_of_block (w := w) (a := ⟨g, _, none⟩) hb).trans (hc k hk2 j hj)⟩
theorem rdK_lt {w : World} {ao : Option Addr} {cs : List Cd} (h : RdR encK w ao cs) (hn : cs ≠ []) : ∀ ad, ao = some ad → ad.block < w.heap.size := by
  intro ad e
  rcases h with h | ⟨g, off, e2, hg, _⟩
  · exact absurd h hn
  · rw [e2] at e; injection e with e; subst e; exact hg
/-- What is left of the way is good from where the machine is. -/
theorem highC_at {p : S.Pt} {cs : List Cd} {k : Nat} (hk : k < cs.length) (h : highC p (cs.drop k)) : ((cs[k]'hk).k = 2 → ((cs[k]'hk).x = p.x ∧ (cs[k]'hk).y = p.y) ∨ (p.z = 200000 ∧ (cs[k]'hk).z = 200000 ∧ (0 ≤ p.x ∧ p.x ≤ 1000000) ∧ (0 ≤ p.y ∧ p.y ≤ 1000000) ∧ (0 ≤ (cs[k]'hk).x ∧ (cs[k]'hk).x ≤ 1000000) ∧ (0 ≤ (cs[k]'hk).y ∧ (cs[k]'hk).y ≤ 1000000))) ∧
    highC (if (cs[k]'hk).k = 2 then ⟨(cs[k]'hk).x, (cs[k]'hk).y, (cs[k]'hk).z⟩ else p) (cs.drop (k + 1)) := by
  rw [List.drop_eq_getElem_cons hk] at h
  exact h
theorem step_len (ts bins : List Plc) (pt : Plc → S.Pt) (s : Cst) (a : Acn) : (stepC ts bins pt s a).1.cs.length ≤ s.cs.length + 4 := by
  have hr : ∀ t, (restC t).length ≤ 1 := fun t => by unfold restC; split <;> simp
  have := hr a.time
  unfold stepC
  repeat' split
  all_goals simp only [List.length_append, workC, List.length_cons, List.length_nil]
  all_goals omega
theorem comp_len (ts bins : List Plc) (pt : Plc → S.Pt) : ∀ (acs : List Acn) (s : Cst) (k : Nat), (compL ts bins pt s k acs).1.cs.length ≤ s.cs.length + 4 * acs.length
  | [], s, k => Nat.le_refl _
  | a :: r, s, k => by
    simp only [compL]
    have h1 := step_len ts bins pt s a
    split
    · have := comp_len ts bins pt r (stepC ts bins pt s a).1 (k + 1)
      rw [List.length_cons]
      omega
    · simp only [List.length_cons]; omega
theorem compR_len (l ls : List Sit) (acs : List Acn) : (compR l ls acs).1.length ≤ 2 + 4 * acs.length := by
  unfold compR
  have := comp_len (tipsL l) (floorB ls) (ptQ ls) acs cst0 0
  have e : cst0.cs.length = 2 := rfl
  rw [e] at this
  split
  · simp
  · split
    · simp
    · split
      · exact this
      · simp
theorem pns3 {w : World} {b : Nat} {p q r : S.Pt} (h : Bk b [.int .i64 p.x, .int .i64 p.y, .int .i64 p.z, .int .i64 q.x, .int .i64 q.y, .int .i64 q.z, .int .i64 r.x, .int .i64 r.y, .int .i64 r.z] w) : S.Pns w (some ⟨b, 0, none⟩) [p, q, r] := by
  refine .inr ⟨b, 0, rfl, fun k hk => ?_⟩
  match k, hk with
  | 0, _ => exact ⟨h.1, h.c 0 rfl, h.c 1 rfl, h.c 2 rfl⟩
  | 1, _ => exact ⟨h.1, h.c 3 rfl, h.c 4 rfl, h.c 5 rfl⟩
  | 2, _ => exact ⟨h.1, h.c 6 rfl, h.c 7 rfl, h.c 8 rfl⟩
set_option linter.unusedVariables false in
def chV (g off k n cap B : Nat) (c : Cd) (d : Nat) (v : Value) (w : World) : Prop :=
  match d with
  | 51 => v = .slice (some ⟨g, off, none⟩) n cap
  | 52 => v = .int .i64 (k : Int)
  | 53 => v = .pointer (some ⟨g, off + k * 5, none⟩)
  | 54 => v = .pointer (some ⟨g, off + k * 5 + 1, none⟩)
  | 55 => v = .int .i64 c.x
  | 56 => v = .slice (some ⟨g, off, none⟩) n cap
  | 57 => v = .int .i64 (k : Int)
  | 58 => v = .pointer (some ⟨g, off + k * 5, none⟩)
  | 59 => v = .pointer (some ⟨g, off + k * 5 + 2, none⟩)
  | 60 => v = .int .i64 c.y
  | 61 => v = .slice (some ⟨g, off, none⟩) n cap
  | 62 => v = .int .i64 (k : Int)
  | 63 => v = .pointer (some ⟨g, off + k * 5, none⟩)
  | 64 => v = .pointer (some ⟨g, off + k * 5 + 3, none⟩)
  | 65 => v = .int .i64 c.z
  | 66 => v = .agg #[.int .i64 c.x, .int .i64 c.y, .int .i64 c.z]
  | 12 => ∃ x, v = .pointer (some ⟨x, 0, none⟩) ∧ Nw B x [.int .i64 0, .int .i64 0, .int .i64 0] w
  | _ => True
set_option linter.unusedVariables false in
theorem chV_mono (g off k n cap B : Nat) (c : Cd) (d : Nat) (v : Value) (w w' : World) (h : chV g off k n cap B c d v w) (hb : Below w.heap.size w w') : chV g off k n cap B c d v w' := by
  unfold chV at h ⊢
  split <;> simp only [] at h <;> first | exact h | (obtain ⟨x, h1, h2⟩ := h; exact ⟨x, h1, h2.later hb⟩)
set_option maxHeartbeats 12800000 in
set_option maxRecDepth 100000 in
theorem cellHigh_any (ao : Option Addr) (cap : Nat) (l : List Sit) (aoA : Option Addr) (capA : Nat) (acs : List Acn) (w : World) (hD : Dk w ao cap l) (hl : l.length ≤ 9223372036854775807) (hA : Acs w aoA acs) (hla : acs.length ≤ 10000000) :
    Calls Tryz.prog 3 #[.slice ao l.length cap, .slice aoA acs.length capA] w fun e w' => e = .returned (.bool true) ∧ Below w.heap.size w w' := by
  have H1 := hid (Compile_all none 0 [] none 0 [] w ⟨.inl rfl, by simp, by simp⟩ (by simp) ⟨.inl rfl, by simp⟩ (by simp))
  have H2 : Hid (∀ W, Below w.heap.size w W → Calls Tryz.prog 4 #[.slice ao l.length cap, .slice aoA acs.length capA] W fun e w' => ∃ ls aoC nC capC, (dchk l = 0 → ls.Perm l) ∧ e = .returned (.tuple #[.slice aoC nC capC, .int .i64 ((compR l ls acs).2.1 : Int), .int .i64 (compR l ls acs).2.2]) ∧ OwnR encK w' W.heap.size (.slice aoC nC capC) (compR l ls acs).1 ∧ Below W.heap.size W w') := fun W hW => Compile_all ao cap l aoA capA acs W (hD.next hW) hl (hA.next hW) hla
  have HDK : Hid (Dk w ao cap l) := hD
  have HLN : Hid (l.length ≤ 9223372036854775807) := hl
  have HLA : Hid (acs.length ≤ 10000000) := hla
  clear hD hA hl hla
  go_enter Tryz.func3, Tryz.ntmps3
  go_wp2_with fail
  refine Calls.mono H1.out ?_
  rintro e w1 ⟨ls1, ao1, n1, cap1, _, he, ho, hb1⟩
  rw [compR_nil] at he ho
  have hn1 := own_len ho
  have hn2 : n1 = 2 := hn1
  subst hn2
  subst he
  have HB1 : Hid (Below w.heap.size w w1) := hb1
  clear ho hb1 hn1 H1
  go_wp2_with fail
  refine Calls.mono (H2.out w1 HB1.out) ?_
  rintro e w2 ⟨ls, aoC, nC, capC, hp, rfl, ho, hb2⟩
  have HB2 : Hid (Below w.heap.size w w2) := HB1.out.trans (hb2.mono HB1.out.size)
  have hnC := own_len ho
  have hcl : (compR l ls acs).1.length ≤ 100000000 := by have := compR_len l ls acs; have := HLA.out; omega
  have hcase := compR_high (acs := acs) hp HDK.out.ok
  have HRD : Hid (RdR encK w2 aoC (compR l ls acs).1) := rd_own goodK ho
  have HBS : Hid (∀ ad, aoC = some ad → w1.heap.size ≤ ad.block) := fun ad e => by subst e; exact (own_lt ho rfl).1
  clear ho hb2 H2 hp
  generalize compR l ls acs = R at *
  obtain ⟨cs, m, d⟩ := R
  simp only at hnC hcase HRD hcl ⊢
  subst hnC
  rcases hcase with ⟨hd, hcs⟩ | ⟨hd, hdk, hhi⟩
  · subst hcs
    have h3 : (d != 0) = true := by simp [hd]
    clear hd
    go_wp2
    go_ret
    exact ⟨rfl, HB2.out⟩
  · subst hd
    have HCL : Hid (cs.length ≤ 100000000) := hcl
    have HDC : Hid (dchk l = 0) := hdk
    have HHI : Hid (highC ⟨0, 0, 0⟩ cs) := hhi
    clear hdk hhi hcl
    obtain ⟨w3, hw3⟩ : ∃ w3, w3 = w2.alloc (pto 0 0 0) := ⟨_, rfl⟩
    have hb3 : Below w2.heap.size w2 w3 := by rw [hw3]; exact (Below.refl _ _).alloc (Nat.le_refl _) _
    have KA3 : Hid (Bk w2.heap.size [.int .i64 0, .int .i64 0, .int .i64 0] w3) := by show Bk _ _ _; rw [hw3]; exact Bk.new w2 [.int .i64 0, .int .i64 0, .int .i64 0] 29 _ rfl
    have HB3 : Hid (Below w.heap.size w w3) := HB2.out.trans (hb3.mono HB2.out.size)
    have HRD3 : Hid (RdR encK w3 aoC cs) := HRD.out.next goodK hb3
    have HLT3 : Hid (cs ≠ [] → ∀ ad, aoC = some ad → ad.block < w2.heap.size) := fun hn => rdK_lt HRD.out hn
    have HW3 : Hid (w3 = w2.alloc (pto 0 0 0)) := hw3
    have HP10 : Hid (w.heap.size ≤ w2.heap.size) := HB2.out.size
    clear hw3 hb3 HRD
    go_wp2_with fail
    try rw [← HW3.out]
    go_loopw [11] (fun i wr => ∃ (k : Nat) (p : S.Pt), k ≤ cs.length ∧ i = .int .i64 (k : Int) ∧ highC p (cs.drop k) ∧ Bk w2.heap.size [.int .i64 p.x, .int .i64 p.y, .int .i64 p.z] wr ∧ Kpt (fun j => j = w2.heap.size) w3 wr) (fun i _ => cs.length - (intOf i).toNat)
    case atStart => exact ⟨0, ⟨0, 0, 0⟩, Nat.zero_le _, rfl, HHI.out, KA3.out, Kpt.refl _ _⟩
    case round =>
      obtain ⟨k, p, hk, rfl, hh, hka, hkp⟩ := hrel
      have KA : Hid (Bk w2.heap.size [.int .i64 p.x, .int .i64 p.y, .int .i64 p.z] wr) := hka
      have KP : Hid (Kpt (fun j => j = w2.heap.size) w3 wr) := hkp
      have HH : Hid (highC p (cs.drop k)) := hh
      clear hh hka hkp
      have hcl := HCL.out
      by_cases hlt : k < cs.length
      · have hne : cs ≠ [] := by intro e; rw [e] at hlt; simp at hlt
        obtain ⟨g, off, hao, hg, c0, c1, c2, c3⟩ := rdK_at (rdK_kpt HRD3.out KP.out (fun ad e => by have := HLT3.out hne ad e; omega)) hlt
        obtain ⟨hg2, hn2⟩ := highC_at hlt HH.out
        generalize cs[k]'hlt = c at *
        subst hao
        have HG : Hid (g < wr.heap.size) := hg
        have HC1 : Hid (∀ W, Below wr.heap.size wr W → W.cell? ⟨g, off + k * 5 + 1, none⟩ = some (.int .i64 c.x)) := fun W hW => cell_later hW c1
        have HC2 : Hid (∀ W, Below wr.heap.size wr W → W.cell? ⟨g, off + k * 5 + 2, none⟩ = some (.int .i64 c.y)) := fun W hW => cell_later hW c2
        have HC3 : Hid (∀ W, Below wr.heap.size wr W → W.cell? ⟨g, off + k * 5 + 3, none⟩ = some (.int .i64 c.z)) := fun W hW => cell_later hW c3
        have HG2 := hid hg2
        have HN2 := hid hn2
        have hki : (k : Int) < (cs.length : Int) := by omega
        have HKI : Hid ((k : Int) < (cs.length : Int)) := hki
        clear hg2 hn2 c1 c2 c3 HH
        by_cases h2 : c.k = 2
        · have HG3 := hid (HG2.out h2)
          have HN3 : Hid (highC ⟨c.x, c.y, c.z⟩ (cs.drop (k + 1))) := by have := HN2.out; rw [if_pos h2] at this; exact this
          clear HG2 HN2
          rw [h2] at c0
          go_wp2_with fail
          refine region_seq 17 [false, false, false, false, false, false, false, false, false, false, false, false, true, false, false, false, false, false, false, false, false, false, false, false, false, false, false, false, false, false, false, false, false, false, false, false, false, false, false, false, false, false, false, false, false, false, false, false, false, false, false, true, true, true, true, true, true, true, true, true, true, true, true, true, true, true, true, false, false, false, false, false, false, false, false, false, false, false, false, false, false, false, false, false, false, false, false, false, false, false, false, false, false, false, false, false, false, false, false, false, false, false, false, false, false, false, false, false, false]
            [(51, [], none), (52, [], none), (53, [51, 52], none), (54, [53], none), (55, [54], none), (56, [], none), (57, [], none), (58, [56, 57], none), (59, [58], none), (60, [59], none), (61, [], none), (62, [], none), (63, [61, 62], none), (64, [63], none), (65, [64], none), (66, [55, 60, 65], none), (12, [], none)]
            (chV g off k cs.length capC wr.heap.size c) (by kernel_rfl) (by kernel_rfl) (by kernel_rfl) (by kernel_rfl) (by kernel_rfl) (by decide) (chV_mono g off k cs.length capC wr.heap.size c) ?_ ?_
          · refine ⟨?_, ?_, ?_, ?_, ?_, ?_, ?_, ?_, ?_, ?_, ?_, ?_, ?_, ?_, ?_, ?_, ?_, trivial⟩
            · intro f w1 hb _ K hK
              simp only [over, overL, Nat.reduceAdd]
              go_simp
              exact hK _ _ ⟨_, rfl, by simp only [over, overL, Nat.reduceAdd]; rfl, Below.refl _ _⟩
            · intro f w1 hb _ K hK
              simp only [over, overL, Nat.reduceAdd]
              go_simp
              exact hK _ _ ⟨_, rfl, by simp only [over, overL, Nat.reduceAdd]; rfl, Below.refl _ _⟩
            · intro f w1 hb ⟨h51, h52, _⟩ K hK
              replace h51 : f 51 = _ := h51
              replace h52 : f 52 = _ := h52
              have hki := HKI.out
              simp only [over, overL, Nat.reduceAdd, h51, h52]
              go_simp
              exact hK _ _ ⟨_, rfl, by simp only [over, overL, Nat.reduceAdd, h51, h52]; rfl, Below.refl _ _⟩
            · intro f w1 hb ⟨h53, _⟩ K hK
              replace h53 : f 53 = _ := h53
              simp only [over, overL, Nat.reduceAdd, h53]
              go_simp
              exact hK _ _ ⟨_, rfl, by simp only [over, overL, Nat.reduceAdd, h53]; rfl, Below.refl _ _⟩
            · intro f w1 hb ⟨h54, _⟩ K hK
              replace h54 : f 54 = _ := h54
              have hgl := Nat.lt_of_lt_of_le HG.out hb.size
              have q0 := HC1.out w1 hb
              simp only [over, overL, Nat.reduceAdd, h54]
              go_simp
              exact hK _ _ ⟨_, rfl, by simp only [over, overL, Nat.reduceAdd, h54]; rfl, Below.refl _ _⟩
            · intro f w1 hb _ K hK
              simp only [over, overL, Nat.reduceAdd]
              go_simp
              exact hK _ _ ⟨_, rfl, by simp only [over, overL, Nat.reduceAdd]; rfl, Below.refl _ _⟩
            · intro f w1 hb _ K hK
              simp only [over, overL, Nat.reduceAdd]
              go_simp
              exact hK _ _ ⟨_, rfl, by simp only [over, overL, Nat.reduceAdd]; rfl, Below.refl _ _⟩
            · intro f w1 hb ⟨h56, h57, _⟩ K hK
              replace h56 : f 56 = _ := h56
              replace h57 : f 57 = _ := h57
              have hki := HKI.out
              simp only [over, overL, Nat.reduceAdd, h56, h57]
              go_simp
              exact hK _ _ ⟨_, rfl, by simp only [over, overL, Nat.reduceAdd, h56, h57]; rfl, Below.refl _ _⟩
            · intro f w1 hb ⟨h58, _⟩ K hK
              replace h58 : f 58 = _ := h58
              simp only [over, overL, Nat.reduceAdd, h58]
              go_simp
              exact hK _ _ ⟨_, rfl, by simp only [over, overL, Nat.reduceAdd, h58]; rfl, Below.refl _ _⟩
            · intro f w1 hb ⟨h59, _⟩ K hK
              replace h59 : f 59 = _ := h59
              have hgl := Nat.lt_of_lt_of_le HG.out hb.size
              have q0 := HC2.out w1 hb
              simp only [over, overL, Nat.reduceAdd, h59]
              go_simp
              exact hK _ _ ⟨_, rfl, by simp only [over, overL, Nat.reduceAdd, h59]; rfl, Below.refl _ _⟩
            · intro f w1 hb _ K hK
              simp only [over, overL, Nat.reduceAdd]
              go_simp
              exact hK _ _ ⟨_, rfl, by simp only [over, overL, Nat.reduceAdd]; rfl, Below.refl _ _⟩
            · intro f w1 hb _ K hK
              simp only [over, overL, Nat.reduceAdd]
              go_simp
              exact hK _ _ ⟨_, rfl, by simp only [over, overL, Nat.reduceAdd]; rfl, Below.refl _ _⟩
            · intro f w1 hb ⟨h61, h62, _⟩ K hK
              replace h61 : f 61 = _ := h61
              replace h62 : f 62 = _ := h62
              have hki := HKI.out
              simp only [over, overL, Nat.reduceAdd, h61, h62]
              go_simp
              exact hK _ _ ⟨_, rfl, by simp only [over, overL, Nat.reduceAdd, h61, h62]; rfl, Below.refl _ _⟩
            · intro f w1 hb ⟨h63, _⟩ K hK
              replace h63 : f 63 = _ := h63
              simp only [over, overL, Nat.reduceAdd, h63]
              go_simp
              exact hK _ _ ⟨_, rfl, by simp only [over, overL, Nat.reduceAdd, h63]; rfl, Below.refl _ _⟩
            · intro f w1 hb ⟨h64, _⟩ K hK
              replace h64 : f 64 = _ := h64
              have hgl := Nat.lt_of_lt_of_le HG.out hb.size
              have q0 := HC3.out w1 hb
              simp only [over, overL, Nat.reduceAdd, h64]
              go_simp
              exact hK _ _ ⟨_, rfl, by simp only [over, overL, Nat.reduceAdd, h64]; rfl, Below.refl _ _⟩
            · intro f w1 hb ⟨h55, h60, h65, _⟩ K hK
              replace h55 : f 55 = _ := h55
              replace h60 : f 60 = _ := h60
              replace h65 : f 65 = _ := h65
              simp only [over, overL, Nat.reduceAdd, h55, h60, h65]
              go_simp
              exact hK _ _ ⟨_, rfl, by simp only [over, overL, Nat.reduceAdd, h55, h60, h65]; rfl, Below.refl _ _⟩
            · intro f w1 hb _ K hK
              simp only [over, overL, Nat.reduceAdd]
              go_simp
              exact hK _ _ ⟨_, ⟨_, rfl, hb.size, Bk.new w1 [.int .i64 0, .int .i64 0, .int .i64 0] 29 _ rfl⟩, by simp only [over, overL, Nat.reduceAdd]; rfl, (Below.refl _ _).alloc (Nat.le_refl _) _⟩
          intro f w5 hb hv
          have h66 : f 66 = .agg #[.int .i64 c.x, .int .i64 c.y, .int .i64 c.z] := hv.2.2.2.2.2.2.2.2.2.2.2.2.2.2.2.1
          obtain ⟨A, h12, hA0, hkA⟩ := (show ∃ x, f 12 = .pointer (some ⟨x, 0, none⟩) ∧ Nw wr.heap.size x [.int .i64 0, .int .i64 0, .int .i64 0] w5 from hv.2.2.2.2.2.2.2.2.2.2.2.2.2.2.2.2.1)
          obtain ⟨w6, hw6⟩ : ∃ w6, w6 = ((w5.setCell ⟨A, 0, none⟩ (.int .i64 c.x)).setCell ⟨A, 1, none⟩ (.int .i64 c.y)).setCell ⟨A, 2, none⟩ (.int .i64 c.z) := ⟨_, rfl⟩
          have kk : Kpt (fun k => k = A) w5 w6 := by rw [hw6]; exact ((Kpt.setCell (M := fun k => k = A) w5 A 0 _ rfl).trans (Kpt.setCell _ A 1 _ rfl)).trans (Kpt.setCell _ A 2 _ rfl)
          have hb6 : Below wr.heap.size wr w6 := hb.trans (kk.below hb.size (fun k e => by omega))
          have KT6 : Hid (Bk A [.int .i64 c.x, .int .i64 c.y, .int .i64 c.z] w6) := by show Bk _ _ _; rw [hw6]; exact ((hkA.put 0 _).put 1 _).put 2 _
          have KA6 : Hid (Bk w2.heap.size [.int .i64 p.x, .int .i64 p.y, .int .i64 p.z] w6) := KA.out.later hb6
          have KP6 : Hid (Kpt (fun j => j = w2.heap.size) w3 w6) := KP.out.trans (Kpt.of_below hb6)
          have HAN : Hid (A ≠ w2.heap.size) := by show _ ≠ _; have := KA.out.1; omega
          have a0 := hkA.c 0 rfl
          have af0 := hkA.f 0 rfl
          have a1 := hkA.c 1 rfl
          have af1 := hkA.f 1 rfl
          have a2 := hkA.c 2 rfl
          have af2 := hkA.f 2 rfl
          have hAlt := hkA.1
          have r0 := KT6.out.c 0 rfl
          have r1 := KT6.out.c 1 rfl
          have s0 := KA6.out.c 0 rfl
          have s1 := KA6.out.c 1 rfl
          have HW6 : Hid (w6 = _) := hw6
          rw [hw6] at r0 r1 s0 s1
          simp only [over_eq, overL, h66, h12, Nat.reduceAdd, List.drop_succ_cons, List.drop_zero]
          clear hv h12 h66 hw6 kk hb6 hb hkA KA KP HC1 HC2 HC3 c0 HKI hg HG
          by_cases hxy : c.x = p.x ∧ c.y = p.y
          · have hx : (c.x != p.x) = false := by simp [hxy.1]
            have hy : (c.y != p.y) = false := by simp [hxy.2]
            clear hxy
            have sf0 := KA6.out.f 0 rfl
            have sf1 := KA6.out.f 1 rfl
            have sf2 := KA6.out.f 2 rfl
            have r2 := KT6.out.c 2 rfl
            have s2 := KA6.out.c 2 rfl
            rw [HW6.out] at sf0 sf1 sf2 r2 s2
            go_wp2_with fail
            rw [← HW6.out]
            go_roundw
            case rel => exact ⟨k + 1, ⟨c.x, c.y, c.z⟩, by omega, by go_num, HN3.out, ((KA6.out.put 0 _).put 1 _).put 2 _, ((KP6.out.trans (Kpt.setCell _ _ _ _ rfl)).trans (Kpt.setCell _ _ _ _ rfl)).trans (Kpt.setCell _ _ _ _ rfl)⟩
            case measure => simp [intOf]; omega
          · have HG4 := hid (HG3.out.resolve_left hxy)
            have hor : (c.x != p.x) = true ∨ ((c.x != p.x) = false ∧ (c.y != p.y) = true) := by
              by_cases e : c.x = p.x
              · exact .inr ⟨by simp [e], by simp only [bne_iff_ne]; exact fun e2 => hxy ⟨e, e2⟩⟩
              · exact .inl (by simp [e])
            clear hxy HG3
            rcases hor with hx | ⟨hx, hy⟩
            all_goals
              have r2 := KT6.out.c 2 rfl
              have s2 := KA6.out.c 2 rfl
              rw [HW6.out] at r2 s2
              go_wp2_with fail
              obtain ⟨w7, hw7⟩ : ∃ w7, w7 = w6.alloc (.cells #[.int .i64 p.x, .int .i64 p.y, .int .i64 p.z, .int .i64 c.x, .int .i64 p.y, .int .i64 p.z, .int .i64 c.x, .int .i64 c.y, .int .i64 c.z] 29) := ⟨_, rfl⟩
              have hb67 : Below w6.heap.size w6 w7 := by rw [hw7]; exact (Below.refl _ _).alloc (Nat.le_refl _) _
              have hs6 : w6.heap.size = w5.heap.size := by rw [HW6.out]; simp [World.setCell]
              have hpn : S.Pns w7 (some ⟨w5.heap.size, 0, none⟩) [p, ⟨c.x, p.y, p.z⟩, ⟨c.x, c.y, c.z⟩] := by rw [hw7]; exact pns3 (Bk.new w6 [.int .i64 p.x, .int .i64 p.y, .int .i64 p.z, .int .i64 c.x, .int .i64 p.y, .int .i64 p.z, .int .i64 c.x, .int .i64 c.y, .int .i64 c.z] 29 _ hs6.symm)
              have HB7 : Hid (Below w.heap.size w w7) := HB3.out.trans (((KP6.out.below (B := w.heap.size) HB3.out.size (fun j e => by have := HP10.out; omega))).trans (hb67.mono (Nat.le_trans HB3.out.size KP6.out.size)))
              obtain ⟨zp, zq, b1, b2, b3, b4⟩ := HG4.out
              have hck : S.checkR l S.zB [p, ⟨c.x, p.y, p.z⟩, ⟨c.x, c.y, c.z⟩] = (-1, 0) := check_high HDC.out (p := p) (q := ⟨c.x, c.y, c.z⟩) ⟨b1, b2⟩ ⟨b3, b4⟩ zp zq
              have hD7 := HDK.out.next HB7.out
              have HCK := hid (S.pcheck_any ao (some ⟨w5.heap.size, 0, none⟩) cap 3 l S.zB [p, ⟨c.x, p.y, p.z⟩, ⟨c.x, c.y, c.z⟩] w7 ⟨hD7.sts, hD7.cap, HLN.out, hD7.ok⟩ hpn (by simp))
              rw [hck] at HCK
              have hz : (c.z != p.z) = false := by simp [zp, zq]
              clear hck hD7 zp zq b1 b2 b3 b4 hpn a0 af0 a1 af1 a2 af2 r0 r1 s0 s1 r2 s2
              rw [← HW6.out, ← hw7]
              clear hw7
              refine Calls.mono HCK.out ?_
              rintro e w8 ⟨rfl, hb8⟩
              have hb68 : Below w6.heap.size w6 w8 := hb67.trans (hb8.mono hb67.size)
              have KT8 : Hid (Bk A [.int .i64 c.x, .int .i64 c.y, .int .i64 c.z] w8) := KT6.out.later hb68
              have KA8 : Hid (Bk w2.heap.size [.int .i64 p.x, .int .i64 p.y, .int .i64 p.z] w8) := KA6.out.later hb68
              have KP8 : Hid (Kpt (fun j => j = w2.heap.size) w3 w8) := KP6.out.trans (Kpt.of_below hb68)
              have r0 := KT8.out.c 0 rfl
              have r1 := KT8.out.c 1 rfl
              have r2 := KT8.out.c 2 rfl
              have s0 := KA8.out.c 0 rfl
              have s1 := KA8.out.c 1 rfl
              have s2 := KA8.out.c 2 rfl
              have sf0 := KA8.out.f 0 rfl
              have sf1 := KA8.out.f 1 rfl
              have sf2 := KA8.out.f 2 rfl
              clear hb67 hb8 hb68 HCK HW6 KT6 KA6 KP6 hs6
              go_wp2
              go_roundw
              case rel => exact ⟨k + 1, ⟨c.x, c.y, c.z⟩, by omega, by go_num, HN3.out, ((KA8.out.put 0 _).put 1 _).put 2 _, ((KP8.out.trans (Kpt.setCell _ _ _ _ rfl)).trans (Kpt.setCell _ _ _ _ rfl)).trans (Kpt.setCell _ _ _ _ rfl)⟩
              case measure => simp [intOf]; omega
        · have HN3 : Hid (highC p (cs.drop (k + 1))) := by have := HN2.out; rw [if_neg h2] at this; exact this
          clear HG2 HN2
          have h3 : (c.k != 2) = true := by simp [h2]
          go_wp2
          go_roundw
          case rel => exact ⟨k + 1, p, by omega, by go_num, HN3.out, KA.out, KP.out⟩
          case measure => simp [intOf]; omega
      · have HE : Hid (k = cs.length) := by show _ = _; omega
        have hki : ¬ (k : Int) < (cs.length : Int) := by omega
        go_wp2
        go_ret
        exact ⟨rfl, HB3.out.trans (KP.out.below HB3.out.size (fun j e => by have := HP10.out; omega))⟩
end Go.Proofs.YtcajifelbldjnaaGreat
