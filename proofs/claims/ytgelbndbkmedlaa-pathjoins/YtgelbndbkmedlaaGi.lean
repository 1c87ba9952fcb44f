import Derived.Test.YtgelbndbkmedlaaGe
import Derived.Test.YtgelbndbkmedlaaGf
import Derived.Test.YtgelbndbkmedlaaGh
import Derived.Test.YtgelbndbkmedlaaGb
import Derived.Test.YtgelbndbkmedlaaGd
import Derived.OwnWalkIn
import Derived.TacticsInMore
import Derived.LoopNIn
import Derived.LoopIn

/- refusal, path.Check walked. -/
namespace Go.Proofs.Ytgelbndbkmedlaa.S
open Go.RowKit
theorem Pns.two (w : World) (p q : Pt) : Pns (w.alloc (.cells #[.int .i64 p.x, .int .i64 p.y, .int .i64 p.z, .int .i64 q.x, .int .i64 q.y, .int .i64 q.z] 24)) (some ⟨w.heap.size, 0, none⟩) [p, q] := by
  refine .inr ⟨w.heap.size, 0, rfl, fun k hk => ?_⟩
  match k, hk with
  | 0, _ => exact ⟨by simp, by go_simp, by go_simp, by go_simp⟩
  | 1, _ => exact ⟨by simp, by go_simp, by go_simp, by go_simp⟩
/-- A deck in memory, as it is handed in. -/
structure Dk (w : World) (ao : Option Addr) (cap : Nat) (d : List Sit) : Prop where
  sts : Sts w ao d
  cap : d.length ≤ cap
  len : d.length ≤ 9223372036854775807
  ok : ∀ s ∈ d, SOk s
theorem Dk.next {w w1 : World} {ao : Option Addr} {cap : Nat} {d : List Sit} (h : Dk w ao cap d) (hb : Below w.heap.size w w1) : Dk w1 ao cap d := ⟨h.sts.next hb, h.cap, h.len, h.ok⟩
/-- What is wrong with a deck, with points and a tool. -/
def refuseR (d : List Sit) (t : Bx) (l : List Pt) : Int := if dchk d = 0 then (if l.all nearP = true ∧ nearB t = true then (if toolB t = true then 0 else 1) else 2) else dchk d
set_option maxHeartbeats 3200000 in
theorem prefusal_any (ao ao' : Option Addr) (cap cap' : Nat) (d : List Sit) (t : Bx) (l : List Pt) (w : World) (hD : Dk w ao cap d) (hL : Pns w ao' l) (hl : l.length ≤ 9223372036854775807) :
    Calls Try.prog 21 #[.slice ao d.length cap, bv t, .slice ao' l.length cap'] w fun e w' => e = .returned (.int .i64 (refuseR d t l)) ∧ Below w.heap.size w w' := by
  have HL : Hid (Pns w ao' l) := hL
  have HC : Hid (∀ W, Dk W ao cap d → Calls Try.prog 47 #[.slice ao d.length cap] W fun e w' => e = .returned (.int .i64 (dchk d)) ∧ Below W.heap.size W w') := fun W h => deckCheck_any ao cap d W h.sts h.cap h.len h.ok
  have HD : Hid (Dk w ao cap d) := hD
  have HR : Hid (refuseR d t l = if dchk d = 0 then (if l.all nearP = true ∧ nearB t = true then (if toolB t = true then 0 else 1) else 2) else dchk d) := rfl
  clear hL hD
  generalize dchk d = e0 at *
  have b0 : Below w.heap.size w (w.alloc (bo t)) := (Below.refl _ _).alloc (Nat.le_refl _) _
  have HB0 : Hid (Below w.heap.size w (w.alloc (bo t))) := b0
  have KT : Hid (Bk w.heap.size (bcl t) (w.alloc (bo t))) := Bk.new w (bcl t) 26 w.heap.size rfl
  clear b0
  go_enter Try.func21, Try.ntmps21
  go_wp2_with fail
  refine Calls.mono (HC.out _ (HD.out.next HB0.out)) ?_
  rintro e w1 ⟨rfl, hb1⟩
  have HB1 : Hid (Below w.heap.size w w1) := HB0.out.trans (hb1.mono HB0.out.size)
  have KT1 : Hid (Bk w.heap.size (bcl t) w1) := KT.out.later hb1
  clear hb1 KT
  by_cases he : e0 = 0
  · subst he
    go_wp2_with fail
    refine Calls.mono (pnear_any ao' cap' l w1 (HL.out.next HB1.out) hl) ?_
    rintro e w2 ⟨rfl, hb2⟩
    have HB2 : Hid (Below w.heap.size w w2) := HB1.out.trans (hb2.mono HB1.out.size)
    have KT2 : Hid (Bk w.heap.size (bcl t) w2) := KT1.out.later hb2
    clear hb2
    cases hn : l.all nearP with
    | false =>
      have HF : Hid (refuseR d t l = 2) := by show _ = _; have := HR.out; simpa [hn] using this
      clear hn
      go_wp2
      go_ret
      exact ⟨ret_int HF.out.symm, HB2.out⟩
    | true =>
      have HF : Hid (refuseR d t l = if nearB t = true then (if toolB t = true then 0 else 1) else 2) := by show _ = _; have := HR.out; simpa [hn] using this
      clear hn HR
      have t0 := (KT2.out).c 0 rfl
      have t1 := (KT2.out).c 1 rfl
      have t2 := (KT2.out).c 2 rfl
      have t3 := (KT2.out).c 3 rfl
      have t4 := (KT2.out).c 4 rfl
      have t5 := (KT2.out).c 5 rfl
      have hlt : w.heap.size < w2.heap.size := KT2.out.1
      have HN2 : Hid ([t.lo, t.hi].all nearP = nearB t) := by show _ = _; simp [nearB]
      have HP : Hid (Pns (w2.alloc (bp t)) (some ⟨w2.heap.size, 0, none⟩) [t.lo, t.hi]) := Pns.two w2 t.lo t.hi
      have b3 : Below w2.heap.size w2 (w2.alloc (bp t)) := (Below.refl _ _).alloc (Nat.le_refl _) _
      have HB3 : Hid (Below w.heap.size w (w2.alloc (bp t))) := HB2.out.trans (b3.mono HB2.out.size)
      have KT3 : Hid (Bk w.heap.size (bcl t) (w2.alloc (bp t))) := KT2.out.later b3
      clear b3
      go_wp2_with fail
      refine Calls.mono (pnear_any (some ⟨w2.heap.size, 0, none⟩) 2 [t.lo, t.hi] (w2.alloc (bp t)) HP.out (by simp)) ?_
      rintro e w4 ⟨rfl, hb4⟩
      rw [HN2.out]
      have HB4 : Hid (Below w.heap.size w w4) := HB3.out.trans (hb4.mono HB3.out.size)
      have KT4 : Hid (Bk w.heap.size (bcl t) w4) := KT3.out.later hb4
      clear hb4 t0 t1 t2 t3 t4 t5
      cases hn : nearB t with
      | false =>
        have HG : Hid (refuseR d t l = 2) := by show _ = _; have := HF.out; simpa [hn] using this
        clear hn
        go_wp2
        go_ret
        exact ⟨ret_int HG.out.symm, HB4.out⟩
      | true =>
        have HG : Hid (refuseR d t l = if toolB t = true then 0 else 1) := by show _ = _; have := HF.out; simpa [hn] using this
        clear hn
        have t0 := (KT4.out).c 0 rfl
        have t1 := (KT4.out).c 1 rfl
        have t2 := (KT4.out).c 2 rfl
        have t3 := (KT4.out).c 3 rfl
        have t4 := (KT4.out).c 4 rfl
        have t5 := (KT4.out).c 5 rfl
        go_wp2_with fail
        refine Calls.mono (isTool_any t w4) ?_
        rintro e w5 ⟨rfl, hb5⟩
        have HB5 : Hid (Below w.heap.size w w5) := HB4.out.trans (hb5.mono HB4.out.size)
        clear hb5
        cases hn : toolB t with
        | false =>
          have HE : Hid (refuseR d t l = 1) := by show _ = _; have := HG.out; simpa [hn] using this
          clear hn
          go_wp2
          go_ret
          exact ⟨ret_int HE.out.symm, HB5.out⟩
        | true =>
          have HE : Hid (refuseR d t l = 0) := by show _ = _; have := HG.out; simpa [hn] using this
          clear hn
          go_wp2
          go_ret
          exact ⟨ret_int HE.out.symm, HB5.out⟩
  · have HF : Hid (refuseR d t l = e0) := by show _ = _; have := HR.out; simpa [he] using this
    have hne : (e0 != 0) = true := by simp [he]
    clear he
    go_wp2
    go_ret
    exact ⟨ret_int HF.out.symm, HB1.out⟩
/-- What path.Check answers. -/
def checkR (d : List Sit) (t : Bx) (way : List Pt) : Int × Int :=
  if refuseR d t way = 0 then (if way.any (farB t) = true then (0, 2) else if way.length = 0 ∨ 1000 < way.length then (0, 7) else if slant way = true then (0, 6) else (wrongL (d.map boxOf) t way, 0)) else (0, refuseR d t way)
theorem refuse_zero {d : List Sit} {t : Bx} {l : List Pt} (h : refuseR d t l = 0) : dchk d = 0 ∧ (∀ p ∈ l, nearP p = true) ∧ nearB t = true ∧ toolB t = true := by
  unfold refuseR at h
  by_cases h1 : dchk d = 0
  · rw [if_pos h1] at h
    by_cases h2 : l.all nearP = true ∧ nearB t = true
    · rw [if_pos h2] at h
      by_cases h3 : toolB t = true
      · exact ⟨h1, List.all_eq_true.1 h2.1, h2.2, h3⟩
      · rw [if_neg h3] at h; omega
    · rw [if_neg h2] at h; omega
  · rw [if_neg h1] at h; omega
set_option maxHeartbeats 6400000 in
set_option maxRecDepth 100000 in
theorem pcheck_any (ao ao' : Option Addr) (cap cap' : Nat) (d : List Sit) (t : Bx) (way : List Pt) (w : World) (hD : Dk w ao cap d) (hL : Pns w ao' way) (hl : way.length ≤ 9223372036854775807) :
    Calls Try.prog 12 #[.slice ao d.length cap, bv t, .slice ao' way.length cap'] w fun e w' => e = .returned (.tuple #[.int .i64 (checkR d t way).1, .int .i64 (checkR d t way).2]) ∧ Below w.heap.size w w' := by
  have HL : Hid (Pns w ao' way) := hL
  have HD : Hid (Dk w ao cap d) := hD
  have HR : Hid (checkR d t way = if refuseR d t way = 0 then (if way.any (farB t) = true then (0, 2) else if way.length = 0 ∨ 1000 < way.length then (0, 7) else if slant way = true then (0, 6) else (wrongL (d.map boxOf) t way, 0)) else (0, refuseR d t way)) := rfl
  have HZ : Hid (refuseR d t way = 0 → dchk d = 0 ∧ (∀ p ∈ way, nearP p = true) ∧ nearB t = true ∧ toolB t = true) := refuse_zero
  have HF : Hid (∀ W, Dk W ao cap d → Pns W ao' way → Calls Try.prog 21 #[.slice ao d.length cap, bv t, .slice ao' way.length cap'] W fun e w' => e = .returned (.int .i64 (refuseR d t way)) ∧ Below W.heap.size W w') := fun W h1 h2 => prefusal_any ao ao' cap cap' d t way W h1 h2 hl
  clear hL hD
  generalize refuseR d t way = e0 at *
  have b0 : Below w.heap.size w (w.alloc (bo t)) := (Below.refl _ _).alloc (Nat.le_refl _) _
  have HB0 : Hid (Below w.heap.size w (w.alloc (bo t))) := b0
  have KT : Hid (Bk w.heap.size (bcl t) (w.alloc (bo t))) := Bk.new w (bcl t) 26 w.heap.size rfl
  clear b0
  go_enter Try.func12, Try.ntmps12
  go_wp2_with fail
  refine Calls.mono (HF.out _ (HD.out.next HB0.out) (HL.out.next HB0.out)) ?_
  rintro e w1 ⟨rfl, hb1⟩
  have HB1 : Hid (Below w.heap.size w w1) := HB0.out.trans (hb1.mono HB0.out.size)
  have KT1 : Hid (Bk w.heap.size (bcl t) w1) := KT.out.later hb1
  clear hb1 KT HF
  by_cases he : e0 = 0
  · subst he
    obtain ⟨hz1, hz2, _, _⟩ := HZ.out rfl
    have HD0 : Hid (dchk d = 0) := hz1
    have HNR : Hid (∀ p ∈ way, nearP p = true) := hz2
    clear hz1 hz2 HZ
    have t0 := (KT1.out).c 0 rfl
    have t1 := (KT1.out).c 1 rfl
    have t2 := (KT1.out).c 2 rfl
    have t3 := (KT1.out).c 3 rfl
    have t4 := (KT1.out).c 4 rfl
    have t5 := (KT1.out).c 5 rfl
    go_wp2_with fail
    refine Calls.mono (tooFar_any t w1) ?_
    rintro e w2 ⟨rfl, rfl⟩
    have b2 : Below w1.heap.size w1 (w1.alloc (bo t)) := (Below.refl _ _).alloc (Nat.le_refl _) _
    have HB2 : Hid (Below w.heap.size w (w1.alloc (bo t))) := HB1.out.trans (b2.mono HB1.out.size)
    have KT2 : Hid (Bk w.heap.size (bcl t) (w1.alloc (bo t))) := KT1.out.later b2
    clear b2 t0 t1 t2 t3 t4 t5
    go_wp2_with fail
    refine Calls.mono (far_any ao' cap' way t w1.heap.size (w1.alloc (bo t)) (bo_at w1 t) (HL.out.next HB2.out) hl) ?_
    rintro e w3 ⟨rfl, hb3⟩
    have HB3 : Hid (Below w.heap.size w w3) := HB2.out.trans (hb3.mono HB2.out.size)
    have KT3 : Hid (Bk w.heap.size (bcl t) w3) := KT2.out.later hb3
    clear hb3
    cases hf : way.any (farB t) with
    | true =>
      have HE : Hid (checkR d t way = (0, 2)) := by show _ = _; have := HR.out; simpa [hf] using this
      clear hf
      go_wp2
      refine bodyPost_ret (v := .tuple #[.int .i64 0, .int .i64 2]) (by simp [results, Try.results12, go_sem]) rfl ⟨by rw [HE.out], HB3.out⟩
    | false =>
      have HR2 : Hid (checkR d t way = if way.length = 0 ∨ 1000 < way.length then (0, 7) else if slant way = true then (0, 6) else (wrongL (d.map boxOf) t way, 0)) := by show _ = _; have := HR.out; simpa [hf] using this
      clear hf HR
      by_cases h0 : way.length = 0
      · have HE : Hid (checkR d t way = (0, 7)) := by show _ = _; have := HR2.out; simpa [h0] using this
        have hd0 : ((way.length : Int) == 0) = true := beq_iff_eq.2 (by omega)
        have HN0 : Hid (way.length = 0) := h0
        clear h0
        go_wp2
        refine bodyPost_ret (v := .tuple #[.int .i64 0, .int .i64 7]) (by simp [results, Try.results12, go_sem]) rfl ⟨by rw [HE.out], HB3.out⟩
      · have hd0 : ((way.length : Int) == 0) = false := beq_eq_false_iff_ne.2 (by omega)
        have HN0 : Hid (way.length ≠ 0) := h0
        by_cases h1 : 1000 < way.length
        · have HE : Hid (checkR d t way = (0, 7)) := by show _ = _; have := HR2.out; simpa [h1] using this
          clear h0
          go_wp2
          refine bodyPost_ret (v := .tuple #[.int .i64 0, .int .i64 7]) (by simp [results, Try.results12, go_sem]) rfl ⟨by rw [HE.out], HB3.out⟩
        · have HE1 : Hid (checkR d t way = if slant way = true then (0, 6) else (wrongL (d.map boxOf) t way, 0)) := by show _ = _; rw [HR2.out, if_neg (by omega)]
          clear h0 HR2
          go_wp2_with fail
          refine Calls.mono (isSlanting_any ao' cap' way w3 (HL.out.next HB3.out) hl (fun p hp => nearP_sm (HNR.out p hp))) ?_
          rintro e w4 ⟨rfl, hb4⟩
          have HB4 : Hid (Below w.heap.size w w4) := HB3.out.trans (hb4.mono HB3.out.size)
          have KT4 : Hid (Bk w.heap.size (bcl t) w4) := KT3.out.later hb4
          clear hb4
          cases hs : slant way with
          | true =>
            have HE : Hid (checkR d t way = (0, 6)) := by show _ = _; have := HE1.out; simpa [hs] using this
            clear hs
            go_wp2
            refine bodyPost_ret (v := .tuple #[.int .i64 0, .int .i64 6]) (by simp [results, Try.results12, go_sem]) rfl ⟨by rw [HE.out], HB4.out⟩
          | false =>
            have HE : Hid (checkR d t way = (wrongL (d.map boxOf) t way, 0)) := by show _ = _; have := HE1.out; simpa [hs] using this
            have HBX := (show Hid _ from boxes_ok ao cap d w4 (HD.out.next HB4.out).sts HD.out.cap HD.out.ok HD0.out)
            clear hs HE1
            go_wp2_with fail
            refine Calls.mono HBX.out ?_
            rintro e w5 ⟨v, rfl, hown, hb5⟩
            obtain ⟨aoB, capB, rfl, hbxs, _⟩ := OwnB.shape hown
            have HB5 : Hid (Below w.heap.size w w5) := HB4.out.trans (hb5.mono HB4.out.size)
            have KT5 : Hid (Bk w.heap.size (bcl t) w5) := KT4.out.later hb5
            have HBS : Hid (Bxs w5 aoB (d.map boxOf)) := hbxs
            have HBL : Hid ((d.map boxOf).length ≤ 9223372036854775807) := by show _ ≤ _; rw [List.length_map]; exact HD.out.len
            clear hb5 hown hbxs HBX
            generalize d.map boxOf = bs at *
            have t0 := (KT5.out).c 0 rfl
            have t1 := (KT5.out).c 1 rfl
            have t2 := (KT5.out).c 2 rfl
            have t3 := (KT5.out).c 3 rfl
            have t4 := (KT5.out).c 4 rfl
            have t5 := (KT5.out).c 5 rfl
            go_wp2_with fail
            refine Calls.mono (firstWrong_any aoB ao' capB cap' bs t way w5 HBS.out HBL.out (HL.out.next HB5.out) hl (fun e => HN0.out (by rw [e]; rfl))) ?_
            rintro e w6 ⟨rfl, hb6⟩
            have HB6 : Hid (Below w.heap.size w w6) := HB5.out.trans (hb6.mono HB5.out.size)
            clear hb6
            generalize wrongL bs t way = r at *
            go_wp2
            refine bodyPost_ret (v := .tuple #[.int .i64 r, .int .i64 0]) (by simp [results, Try.results12, go_sem]) rfl ⟨by rw [HE.out], HB6.out⟩
  · have HE : Hid (checkR d t way = (0, e0)) := by show _ = _; have := HR.out; simpa [he] using this
    have hne : (e0 != 0) = true := by simp [he]
    clear he
    go_wp2
    refine bodyPost_ret (v := .tuple #[.int .i64 0, .int .i64 e0]) (by simp [results, Try.results12, go_sem]) rfl ⟨by rw [HE.out], HB1.out⟩
end Go.Proofs.Ytgelbndbkmedlaa.S

/- space.Safe walked. -/
namespace Go.Proofs.Ytgelbndbkmedlaa.S
open Go.RowKit
theorem fhull_r (a b x : Bx) (r : Int) (h : hullR a b = (x, r)) (w : World) : Calls Try.prog 86 #[bv a, bv b] w fun e w' => e = .returned (.tuple #[bv x, .int .i64 r]) ∧ Below w.heap.size w w' := by
  have := fhull_any a b w
  rw [h] at this
  exact this
theorem badL2_zero {a b : Bx} : badL [a, b] = 0 ↔ bad1 a = 0 ∧ bad1 b = 0 := by
  rw [badL_two]
  by_cases h : bad1 a = 0
  · rw [if_pos h]; simp [h]
  · rw [if_neg h]; simp [h]
theorem bad1_iff {b : Bx} : bad1 b = 0 ↔ ((-10000000 ≤ b.lx ∧ b.lx ≤ 10000000) ∧ (-10000000 ≤ b.ly ∧ b.ly ≤ 10000000) ∧ (-10000000 ≤ b.lz ∧ b.lz ≤ 10000000) ∧ (-10000000 ≤ b.hx ∧ b.hx ≤ 10000000) ∧ (-10000000 ≤ b.hy ∧ b.hy ≤ 10000000) ∧ (-10000000 ≤ b.hz ∧ b.hz ≤ 10000000)) ∧ b.lx ≤ b.hx ∧ b.ly ≤ b.hy ∧ b.lz ≤ b.hz := by
  rw [bad1_ok, nearB_iff, atMost_iff]
theorem bx_ext {a b : Bx} (h0 : a.lx = b.lx) (h1 : a.ly = b.ly) (h2 : a.lz = b.lz) (h3 : a.hx = b.hx) (h4 : a.hy = b.hy) (h5 : a.hz = b.hz) : a = b := by
  cases a; cases b; simp at h0 h1 h2 h3 h4 h5; simp [*]
theorem hull_comm (a b : Bx) : hullB b a = hullB a b := by
  apply bx_ext <;> simp only [hullB] <;> omega
theorem hull_left (a b : Bx) : hullB (hullB a b) a = hullB a b := by
  apply bx_ext <;> simp only [hullB] <;> omega
theorem hull_right (a b : Bx) : hullB b (hullB a b) = hullB a b := by
  apply bx_ext <;> simp only [hullB] <;> omega
theorem hull_good {a b : Bx} (ha : bad1 a = 0) (hb : bad1 b = 0) : bad1 (hullB a b) = 0 := by
  rw [bad1_iff] at *
  simp only [hullB]
  omega
theorem hullR_ok {a b : Bx} (ha : bad1 a = 0) (hb : bad1 b = 0) : hullR a b = (hullB a b, 0) := if_pos (badL2_zero.2 ⟨ha, hb⟩)
theorem meetR_ok {a b : Bx} (ha : bad1 a = 0) (hb : bad1 b = 0) : meetR a b = (meet a b, 0) := if_pos (badL2_zero.2 ⟨ha, hb⟩)
/-- The cube of two. -/
abbrev cube2 : Bx := ⟨0, 0, 0, 2, 2, 2⟩
theorem cube2_good : bad1 cube2 = 0 := by decide
theorem cube2_hull : hullR cube2 cube2 = (cube2, 0) := by rw [hullR_ok cube2_good cube2_good]; rfl
theorem moveR_bad {a : Bx} {p : Pt} (h : bad1 a ≠ 0) : moveR a p = (zB, bad1 a) := if_neg h
theorem moveR_far {a : Bx} {p : Pt} (h : bad1 a = 0) (hp : nearP p = false) : moveR a p = (zB, 2) := by unfold moveR; rw [if_pos h, hp]; rfl
theorem moveR_out {a : Bx} {p : Pt} (h : bad1 a = 0) (hp : nearP p = true) (hm : nearB (movB a p) = false) : moveR a p = (zB, 2) := by unfold moveR; rw [if_pos h, hp, if_pos rfl, hm]; rfl
theorem moveR_ok {a : Bx} {p : Pt} (h : bad1 a = 0) (hp : nearP p = true) (hm : nearB (movB a p) = true) : moveR a p = (movB a p, 0) := by unfold moveR; rw [if_pos h, hp, if_pos rfl, hm]; rfl
theorem hullR_bad {a b : Bx} {r : Int} (h : badL [a, b] = r) (hr : r ≠ 0) : hullR a b = (zB, r) := by unfold hullR; rw [h, if_neg hr]

def sf8V (ao : Option Addr) (n cap : Nat) (a k m : Bx) (H : Int) (d : Nat) (v : Value) (_w : World) : Prop :=
  match d with
  | 34 => v = .slice ao n cap
  | 35 => v = bv a
  | 36 => v = bv k
  | 37 => v = bv (hullB a k)
  | 38 => v = bv k
  | 39 => v = bv m
  | 40 => v = bv (hullB k m)
  | 41 => v = .int .i64 H
  | 11 => v = .int .i64 H
  | _ => True
/-- The corner, the end, both ways. -/
abbrev cornerB (a : Bx) (p : Pt) : Bx := movB a ⟨p.x, 0, 0⟩
abbrev endB (a : Bx) (p : Pt) : Bx := movB (cornerB a p) ⟨0, p.y, 0⟩
abbrev wayX (a : Bx) (p : Pt) : Bx := hullB a (cornerB a p)
abbrev wayY (a : Bx) (p : Pt) : Bx := hullB (cornerB a p) (endB a p)
/-- No number on the way is great. -/
structure SafeF (a : Bx) (p : Pt) : Prop where
  ka : SmB a
  kc : SmB (cornerB a p)
  ke : SmB (endB a p)
  kx : SmB (wayX a p)
  ky : SmB (wayY a p)
  px : SmP ⟨p.x, 0, 0⟩
  py : SmP ⟨0, p.y, 0⟩
  hz : (wayX a p).lz = (wayY a p).lz
  za : (wayX a p).lz = a.lz
  z0 : -10000000 ≤ (wayX a p).lz
  z1 : (wayX a p).lz ≤ 10000000
theorem safe_facts {a : Bx} {p : Pt} (ha : bad1 a = 0) (hp : nearP p = true) : SafeF a p := by
  have ha := bad1_iff.1 ha
  have hp := nearP_iff.1 hp
  refine ⟨?_, ?_, ?_, ?_, ?_, ?_, ?_, ?_, ?_, ?_, ?_⟩
  all_goals (simp only [SmB, SmP, cornerB, endB, wayX, wayY, movB, hullB]; omega)
theorem least_in {l : List Bx} {x y : Bx} {H : Int} (hg : badL l = 0) (h : Least l x y H) (z0 : -10000000 ≤ x.lz) (z1 : x.lz ≤ 10000000) : 0 ≤ H ∧ H ≤ 20000000 := by
  obtain ⟨h0, _, _, e | ⟨b, hb, e⟩⟩ := h
  · omega
  · have g := bad1_iff.1 (badL_zero.1 hg b hb)
    omega
theorem moved_r (a m : Bx) (p : Pt) (h : m = movB a p) (ha : SmB a) (hp : SmP p) (w : World) : Calls Try.prog 74 #[bv a, pv p] w fun e w' => e = .returned (bv m) ∧ Below w.heap.size w w' := by
  rw [h]; exact moved_any a p w ha hp
set_option maxHeartbeats 6400000 in
set_option maxRecDepth 100000 in
theorem safe_bad (ao : Option Addr) (cap : Nat) (l : List Bx) (a : Bx) (p : Pt) (w : World) (hL : Bxs w ao l) (hll : l.length ≤ 9223372036854775807) (hr : rlist l [a] ≠ 0) : Calls Try.prog 71 #[.slice ao l.length cap, bv a, pv p] w fun e w' => e = .returned (.tuple #[.int .i64 0, .int .i64 (rlist l [a])]) ∧ Below w.heap.size w w' := by
  have HL : Hid (Bxs w ao l) := hL
  clear hL
  have hne : (rlist l [a] != 0) = true := by simp [hr]
  clear hr
  have HB0 : Hid (Below w.heap.size w w) := Below.refl _ _
  go_enter Try.func71, Try.ntmps71
  go_wp2_with fail
  refine (refList1 ao cap l a _ rfl ((w.alloc (bo (a))).alloc (po (p))) (w.heap.size + 1 + 1) (by simp) (HL.out.next (below_grow _ (Nat.le_refl _) (below_grow _ (Nat.le_refl _) (Below.refl _ _) _) _)) hll).mono ?_
  rintro e w1 ⟨rfl, hb1⟩
  have hal : Below w.heap.size w (((w.alloc (bo (a))).alloc (po (p))).alloc (bo (a))) := (below_grow _ (Nat.le_refl _) (below_grow _ (Nat.le_refl _) (below_grow _ (Nat.le_refl _) (Below.refl _ _) _) _) _)
  have hn : Below w.heap.size w w1 := hal.trans (hb1.mono hal.size)
  have HB1 : Hid (Below w.heap.size w w1) := HB0.out.trans (hn.mono HB0.out.size)
  have Ka1 : Hid (Bf (w.heap.size) (a) w1) := by
    have h := ((Bf.new w (a)).later (below_grow _ (Nat.le_refl _) (below_grow _ (Nat.le_refl _) (Below.refl _ _) _) _)).later hb1
    show Bf _ _ _
    simpa using h
  have Kp1 : Hid (Pf (w.heap.size + 1) (p) w1) := by
    have h := ((Pf.new (w.alloc (bo (a))) (p)).later (below_grow _ (Nat.le_refl _) (Below.refl _ _) _)).later hb1
    show Pf _ _ _
    simpa using h
  clear hal hn hb1
  go_wp2
  go_ret2
  exact ⟨rfl, HB1.out⟩
set_option maxHeartbeats 6400000 in
set_option maxRecDepth 100000 in
theorem safe_far (ao : Option Addr) (cap : Nat) (l : List Bx) (a : Bx) (p : Pt) (w : World) (hL : Bxs w ao l) (hll : l.length ≤ 9223372036854775807) (hr : rlist l [a] = 0) (hp : nearP p = false) : Calls Try.prog 71 #[.slice ao l.length cap, bv a, pv p] w fun e w' => e = .returned (.tuple #[.int .i64 0, .int .i64 2]) ∧ Below w.heap.size w w' := by
  have HL : Hid (Bxs w ao l) := hL
  clear hL
  have HR : Hid (rlist l [a] = 0) := hr
  have HP : Hid (nearP p = false) := hp
  clear hr hp
  have HB0 : Hid (Below w.heap.size w w) := Below.refl _ _
  go_enter Try.func71, Try.ntmps71
  go_wp2_with fail
  refine (refList1 ao cap l a 0 HR.out ((w.alloc (bo (a))).alloc (po (p))) (w.heap.size + 1 + 1) (by simp) (HL.out.next (below_grow _ (Nat.le_refl _) (below_grow _ (Nat.le_refl _) (Below.refl _ _) _) _)) hll).mono ?_
  rintro e w1 ⟨rfl, hb1⟩
  have hal : Below w.heap.size w (((w.alloc (bo (a))).alloc (po (p))).alloc (bo (a))) := (below_grow _ (Nat.le_refl _) (below_grow _ (Nat.le_refl _) (below_grow _ (Nat.le_refl _) (Below.refl _ _) _) _) _)
  have hn : Below w.heap.size w w1 := hal.trans (hb1.mono hal.size)
  have HB1 : Hid (Below w.heap.size w w1) := HB0.out.trans (hn.mono HB0.out.size)
  have Ka1 : Hid (Bf (w.heap.size) (a) w1) := by
    have h := ((Bf.new w (a)).later (below_grow _ (Nat.le_refl _) (below_grow _ (Nat.le_refl _) (Below.refl _ _) _) _)).later hb1
    show Bf _ _ _
    simpa using h
  have Kp1 : Hid (Pf (w.heap.size + 1) (p) w1) := by
    have h := ((Pf.new (w.alloc (bo (a))) (p)).later (below_grow _ (Nat.le_refl _) (Below.refl _ _) _)).later hb1
    show Pf _ _ _
    simpa using h
  clear hal hn hb1
  obtain ⟨pl, p0, p1, p2⟩ := Kp1.out
  go_wp2_with fail
  refine (near1r p false HP.out w1 w1.heap.size rfl).mono ?_
  rintro e w2 ⟨rfl, hb2⟩
  clear pl p0 p1 p2
  have hal : Below w1.heap.size w1 (w1.alloc (po (p))) := (below_grow _ (Nat.le_refl _) (Below.refl _ _) _)
  have hn : Below w1.heap.size w1 w2 := hal.trans (hb2.mono hal.size)
  have HB2 : Hid (Below w.heap.size w w2) := HB1.out.trans (hn.mono HB1.out.size)
  have Ka2 : Hid (Bf (w.heap.size) (a) w2) := Ka1.out.later hn
  have Kp2 : Hid (Pf (w.heap.size + 1) (p) w2) := Kp1.out.later hn
  clear hal hn hb2
  go_wp2
  go_ret2
  exact ⟨rfl, HB2.out⟩
set_option maxHeartbeats 6400000 in
set_option maxRecDepth 100000 in
theorem safe_out (ao : Option Addr) (cap : Nat) (l : List Bx) (a : Bx) (p : Pt) (w : World) (hL : Bxs w ao l) (hll : l.length ≤ 9223372036854775807) (H : Int) (hr : rlist l [a] = 0) (hp : nearP p = true) (hH : Least l (wayX a p) (wayY a p) H) (hn : nearB (movB (endB a p) ⟨0, 0, H⟩) = false) : Calls Try.prog 71 #[.slice ao l.length cap, bv a, pv p] w fun e w' => e = .returned (.tuple #[.int .i64 0, .int .i64 2]) ∧ Below w.heap.size w w' := by
  have HL : Hid (Bxs w ao l) := hL
  clear hL
  have ha : bad1 a = 0 := by have := (rlist_zero.1 hr).2.2; rwa [badL_one] at this
  have hf := safe_facts ha hp
  have hl40 : l.length ≤ 40 := (rlist_zero.1 hr).1
  have HG : Hid (badL l = 0) := (rlist_zero.1 hr).2.1
  have hin := least_in HG.out hH hf.z0 hf.z1
  obtain ⟨k, hk⟩ : ∃ k, k = cornerB a p := ⟨_, rfl⟩
  obtain ⟨m, hm⟩ : ∃ m, m = movB k ⟨0, p.y, 0⟩ := ⟨_, rfl⟩
  obtain ⟨r, hrr⟩ : ∃ r, r = movB m ⟨0, 0, H⟩ := ⟨_, rfl⟩
  have HK : Hid (k = movB a ⟨p.x, 0, 0⟩) := hk
  have HM : Hid (m = movB k ⟨0, p.y, 0⟩) := hm
  have HRR : Hid (r = movB m ⟨0, 0, H⟩) := hrr
  have em : endB a p = m := by rw [hm, hk]
  have HLE : Hid (Least l (hullB a k) (hullB k m) H) := by show Least _ _ _ _; rw [← em, hk]; exact hH
  have HF : Hid (SmB (hullB a k) ∧ SmB (hullB k m) ∧ (hullB a k).lz = (hullB k m).lz ∧ -30000000 ≤ (hullB a k).lz ∧ (hullB a k).lz ≤ 30000000) := by
    show _ ∧ _
    rw [← em, hk]
    exact ⟨hf.kx, hf.ky, hf.hz, Int.le_trans (by decide) hf.z0, Int.le_trans hf.z1 (by decide)⟩
  have HSA : Hid (SmB a ∧ SmP ⟨p.x, 0, 0⟩) := ⟨hf.ka, hf.px⟩
  have HSK : Hid (SmB k ∧ SmP ⟨0, p.y, 0⟩) := by show _ ∧ _; rw [hk]; exact ⟨hf.kc, hf.py⟩
  have HSM : Hid (SmB m ∧ SmP ⟨0, 0, H⟩) := by
    refine ⟨by rw [← em]; exact hf.ke, ?_⟩
    unfold SmP
    simp only
    omega
  have HN : Hid (nearB r = false) := by show _ = _; rw [hrr, ← em]; exact hn
  have HR : Hid (rlist l [a] = 0) := hr
  have HP : Hid (nearP p = true) := hp
  clear ha hf hin hk hm hrr em hr hp hH hn
  have HB0 : Hid (Below w.heap.size w w) := Below.refl _ _
  go_enter Try.func71, Try.ntmps71
  go_wp2_with fail
  refine (refList1 ao cap l a 0 HR.out ((w.alloc (bo (a))).alloc (po (p))) (w.heap.size + 1 + 1) (by simp) (HL.out.next (below_grow _ (Nat.le_refl _) (below_grow _ (Nat.le_refl _) (Below.refl _ _) _) _)) hll).mono ?_
  rintro e w1 ⟨rfl, hb1⟩
  have hal : Below w.heap.size w (((w.alloc (bo (a))).alloc (po (p))).alloc (bo (a))) := (below_grow _ (Nat.le_refl _) (below_grow _ (Nat.le_refl _) (below_grow _ (Nat.le_refl _) (Below.refl _ _) _) _) _)
  have hn : Below w.heap.size w w1 := hal.trans (hb1.mono hal.size)
  have HB1 : Hid (Below w.heap.size w w1) := HB0.out.trans (hn.mono HB0.out.size)
  have Ka1 : Hid (Bf (w.heap.size) (a) w1) := by
    have h := ((Bf.new w (a)).later (below_grow _ (Nat.le_refl _) (below_grow _ (Nat.le_refl _) (Below.refl _ _) _) _)).later hb1
    show Bf _ _ _
    simpa using h
  have Kp1 : Hid (Pf (w.heap.size + 1) (p) w1) := by
    have h := ((Pf.new (w.alloc (bo (a))) (p)).later (below_grow _ (Nat.le_refl _) (Below.refl _ _) _)).later hb1
    show Pf _ _ _
    simpa using h
  clear hal hn hb1
  obtain ⟨pl, p0, p1, p2⟩ := Kp1.out
  go_wp2_with fail
  refine (near1r p true HP.out w1 w1.heap.size rfl).mono ?_
  rintro e w2 ⟨rfl, hb2⟩
  clear pl p0 p1 p2
  have hal : Below w1.heap.size w1 (w1.alloc (po (p))) := (below_grow _ (Nat.le_refl _) (Below.refl _ _) _)
  have hn : Below w1.heap.size w1 w2 := hal.trans (hb2.mono hal.size)
  have HB2 : Hid (Below w.heap.size w w2) := HB1.out.trans (hn.mono HB1.out.size)
  have Ka2 : Hid (Bf (w.heap.size) (a) w2) := Ka1.out.later hn
  have Kp2 : Hid (Pf (w.heap.size + 1) (p) w2) := Kp1.out.later hn
  clear hal hn hb2
  obtain ⟨⟨al, a0, a1, a2, a3, a4, a5⟩, af0, af1, af2, af3, af4, af5⟩ := Ka2.out
  simp only [Nat.zero_add] at a1 a2 a3 a4 a5
  obtain ⟨pl, p0, p1, p2⟩ := Kp2.out
  go_wp2_with fail
  refine (moved_r a k ⟨p.x, 0, 0⟩ HK.out HSA.out.1 HSA.out.2 _).mono ?_
  rintro e w3 ⟨rfl, hb3⟩
  clear al a0 a1 a2 a3 a4 a5 af0 af1 af2 af3 af4 af5 pl p0 p1 p2
  have hal : Below w2.heap.size w2 w2 := (Below.refl _ _)
  have hn : Below w2.heap.size w2 w3 := hal.trans (hb3.mono hal.size)
  have HB3 : Hid (Below w.heap.size w w3) := HB2.out.trans (hn.mono HB2.out.size)
  have Ka3 : Hid (Bf (w.heap.size) (a) w3) := Ka2.out.later hn
  have Kp3 : Hid (Pf (w.heap.size + 1) (p) w3) := Kp2.out.later hn
  clear hal hn hb3
  obtain ⟨pl, p0, p1, p2⟩ := Kp3.out
  go_wp2_with fail
  refine (moved_r k m ⟨0, p.y, 0⟩ HM.out HSK.out.1 HSK.out.2 _).mono ?_
  rintro e w4 ⟨rfl, hb4⟩
  clear pl p0 p1 p2
  have hal : Below w3.heap.size w3 (w3.alloc (bo (k))) := (below_grow _ (Nat.le_refl _) (Below.refl _ _) _)
  have hn : Below w3.heap.size w3 w4 := hal.trans (hb4.mono hal.size)
  have HB4 : Hid (Below w.heap.size w w4) := HB3.out.trans (hn.mono HB3.out.size)
  have Ka4 : Hid (Bf (w.heap.size) (a) w4) := Ka3.out.later hn
  have Kp4 : Hid (Pf (w.heap.size + 1) (p) w4) := Kp3.out.later hn
  have Kk4 : Hid (Bf (w3.heap.size) (k) w4) := by
    have h := ((Bf.new w3 (k)).later (Below.refl _ _)).later hb4
    show Bf _ _ _
    simpa using h
  clear hal hn hb4
  go_wp2_with fail
  obtain ⟨w5, hw5⟩ : ∃ w5, w5 = (w4.alloc (bo (m))) := ⟨_, rfl⟩
  have hal : Below w4.heap.size w4 w5 := by rw [hw5]; exact (below_grow _ (Nat.le_refl _) (Below.refl _ _) _)
  have HB5 : Hid (Below w.heap.size w w5) := HB4.out.trans (hal.mono HB4.out.size)
  have Ka5 : Hid (Bf (w.heap.size) (a) w5) := Ka4.out.later hal
  have Kp5 : Hid (Pf (w.heap.size + 1) (p) w5) := Kp4.out.later hal
  have Kk5 : Hid (Bf (w3.heap.size) (k) w5) := Kk4.out.later hal
  have Km5 : Hid (Bf (w4.heap.size) (m) w5) := by
    have h := (Bf.new w4 (m)).later (Below.refl _ _)
    rw [← hw5] at h
    show Bf _ _ _
    simpa using h
  rw [← hw5]
  clear hw5 hal
  obtain ⟨⟨al, a0, a1, a2, a3, a4, a5⟩, af0, af1, af2, af3, af4, af5⟩ := Ka5.out
  simp only [Nat.zero_add] at a1 a2 a3 a4 a5
  obtain ⟨⟨kl, k0, k1, k2, k3, k4, k5⟩, kf0, kf1, kf2, kf3, kf4, kf5⟩ := Kk5.out
  simp only [Nat.zero_add] at k1 k2 k3 k4 k5
  obtain ⟨⟨ml, m0, m1, m2, m3, m4, m5⟩, mf0, mf1, mf2, mf3, mf4, mf5⟩ := Km5.out
  simp only [Nat.zero_add] at m1 m2 m3 m4 m5
  refine region_inv [false, false, false, false, false, false, false, false, false, false, false, true, false, false, false, false, false, false, false, false, false, false, false, false, false, false, false, false, false, false, false, false, false, false, true, true, true, true, true, true, true, true, false, false, false, false, false, false, false, false, false, false, false, false]
    [(34, [], none), (35, [], none), (36, [], none), (37, [35, 36], none), (38, [], none), (39, [], none), (40, [38, 39], none), (41, [34, 37, 40], none), (11, [41], none)]
    (sf8V ao l.length cap a k m H) (by kernel_rfl) (by kernel_rfl) (fun _ _ _ _ h _ => h) ?_ ?_
  · refine ⟨?_, ?_, ?_, ?_, ?_, ?_, ?_, ?_, ?_, trivial⟩
    · intro f wr hb _ K hK
      simp only [over, overL, Nat.reduceAdd]
      go_simp
      exact hK _ _ ⟨_, rfl, by simp only [over, overL, Nat.reduceAdd]; rfl, Below.refl _ _⟩
    · intro f wr hb _ K hK
      have ca0 := cell_later hb a0
      have ca1 := cell_later hb a1
      have ca2 := cell_later hb a2
      have ca3 := cell_later hb a3
      have ca4 := cell_later hb a4
      have ca5 := cell_later hb a5
      simp only [over, overL, Nat.reduceAdd]
      go_simp
      exact hK _ _ ⟨_, rfl, by simp only [over, overL, Nat.reduceAdd]; rfl, Below.refl _ _⟩
    · intro f wr hb _ K hK
      have ck0 := cell_later hb k0
      have ck1 := cell_later hb k1
      have ck2 := cell_later hb k2
      have ck3 := cell_later hb k3
      have ck4 := cell_later hb k4
      have ck5 := cell_later hb k5
      simp only [over, overL, Nat.reduceAdd]
      go_simp
      exact hK _ _ ⟨_, rfl, by simp only [over, overL, Nat.reduceAdd]; rfl, Below.refl _ _⟩
    · intro f wr hb ⟨h35, h36, _⟩ K hK
      have h35 : f 35 = _ := h35
      have h36 : f 36 = _ := h36
      simp only [over, overL, Nat.reduceAdd, h35, h36]
      go_simp
      refine (hull_any a k wr).mono ?_
      rintro e w9 ⟨rfl, hbn⟩
      exact hK _ _ ⟨_, rfl, by simp only [over, overL, Nat.reduceAdd, h35, h36]; rfl, hbn⟩
    · intro f wr hb _ K hK
      have ck0 := cell_later hb k0
      have ck1 := cell_later hb k1
      have ck2 := cell_later hb k2
      have ck3 := cell_later hb k3
      have ck4 := cell_later hb k4
      have ck5 := cell_later hb k5
      simp only [over, overL, Nat.reduceAdd]
      go_simp
      exact hK _ _ ⟨_, rfl, by simp only [over, overL, Nat.reduceAdd]; rfl, Below.refl _ _⟩
    · intro f wr hb _ K hK
      have cm0 := cell_later hb m0
      have cm1 := cell_later hb m1
      have cm2 := cell_later hb m2
      have cm3 := cell_later hb m3
      have cm4 := cell_later hb m4
      have cm5 := cell_later hb m5
      simp only [over, overL, Nat.reduceAdd]
      go_simp
      exact hK _ _ ⟨_, rfl, by simp only [over, overL, Nat.reduceAdd]; rfl, Below.refl _ _⟩
    · intro f wr hb ⟨h38, h39, _⟩ K hK
      have h38 : f 38 = _ := h38
      have h39 : f 39 = _ := h39
      simp only [over, overL, Nat.reduceAdd, h38, h39]
      go_simp
      refine (hull_any k m wr).mono ?_
      rintro e w9 ⟨rfl, hbn⟩
      exact hK _ _ ⟨_, rfl, by simp only [over, overL, Nat.reduceAdd, h38, h39]; rfl, hbn⟩
    · intro f wr hb ⟨h34, h37, h40, _⟩ K hK
      have h34 : f 34 = _ := h34
      have h37 : f 37 = _ := h37
      have h40 : f 40 = _ := h40
      simp only [over, overL, Nat.reduceAdd, h34, h37, h40]
      go_simp
      refine (least_any ao cap l (hullB a k) (hullB k m) H wr (HL.out.next (HB5.out.trans (hb.mono HB5.out.size))) hl40 HG.out HF.out.1 HF.out.2.1 HF.out.2.2.1 HF.out.2.2.2.1 HF.out.2.2.2.2 HLE.out).mono ?_
      rintro e w9 ⟨rfl, hbn⟩
      exact hK _ _ ⟨_, rfl, by simp only [over, overL, Nat.reduceAdd, h34, h37, h40]; rfl, hbn⟩
    · intro f wr hb ⟨h41, _⟩ K hK
      have h41 : f 41 = _ := h41
      simp only [over, overL, Nat.reduceAdd, h41]
      go_simp
      exact hK _ _ ⟨_, rfl, by simp only [over, overL, Nat.reduceAdd, h41]; rfl, Below.refl _ _⟩
  intro f6 w6 hn h
  have hs11 : f6 11 = .int .i64 H := h.2.2.2.2.2.2.2.2.1
  clear al a0 a1 a2 a3 a4 a5 af0 af1 af2 af3 af4 af5 kl k0 k1 k2 k3 k4 k5 kf0 kf1 kf2 kf3 kf4 kf5 ml m0 m1 m2 m3 m4 m5 mf0 mf1 mf2 mf3 mf4 mf5
  have HB6 : Hid (Below w.heap.size w w6) := HB5.out.trans (hn.mono HB5.out.size)
  have Ka6 : Hid (Bf (w.heap.size) (a) w6) := Ka5.out.later hn
  have Kp6 : Hid (Pf (w.heap.size + 1) (p) w6) := Kp5.out.later hn
  have Kk6 : Hid (Bf (w3.heap.size) (k) w6) := Kk5.out.later hn
  have Km6 : Hid (Bf (w4.heap.size) (m) w6) := Km5.out.later hn
  clear h hn
  obtain ⟨⟨ml, m0, m1, m2, m3, m4, m5⟩, mf0, mf1, mf2, mf3, mf4, mf5⟩ := Km6.out
  simp only [Nat.zero_add] at m1 m2 m3 m4 m5
  simp only [over_eq, overL, Nat.reduceAdd, hs11]
  clear hs11
  go_wp2_with fail
  refine (moved_r m r ⟨0, 0, H⟩ HRR.out HSM.out.1 HSM.out.2 _).mono ?_
  rintro e w7 ⟨rfl, hb7⟩
  clear ml m0 m1 m2 m3 m4 m5 mf0 mf1 mf2 mf3 mf4 mf5
  have hal : Below w6.heap.size w6 w6 := (Below.refl _ _)
  have hn : Below w6.heap.size w6 w7 := hal.trans (hb7.mono hal.size)
  have HB7 : Hid (Below w.heap.size w w7) := HB6.out.trans (hn.mono HB6.out.size)
  have Ka7 : Hid (Bf (w.heap.size) (a) w7) := Ka6.out.later hn
  have Kp7 : Hid (Pf (w.heap.size + 1) (p) w7) := Kp6.out.later hn
  have Kk7 : Hid (Bf (w3.heap.size) (k) w7) := Kk6.out.later hn
  have Km7 : Hid (Bf (w4.heap.size) (m) w7) := Km6.out.later hn
  clear hal hn hb7
  go_wp2_with fail
  refine (near2r r false HN.out (w7.alloc (bo (r))) (w7.heap.size + 1) (by simp)).mono ?_
  rintro e w8 ⟨rfl, hb8⟩
  have hal : Below w7.heap.size w7 ((w7.alloc (bo (r))).alloc (bp r)) := (below_grow _ (Nat.le_refl _) (below_grow _ (Nat.le_refl _) (Below.refl _ _) _) _)
  have hn : Below w7.heap.size w7 w8 := hal.trans (hb8.mono hal.size)
  have HB8 : Hid (Below w.heap.size w w8) := HB7.out.trans (hn.mono HB7.out.size)
  have Ka8 : Hid (Bf (w.heap.size) (a) w8) := Ka7.out.later hn
  have Kp8 : Hid (Pf (w.heap.size + 1) (p) w8) := Kp7.out.later hn
  have Kk8 : Hid (Bf (w3.heap.size) (k) w8) := Kk7.out.later hn
  have Km8 : Hid (Bf (w4.heap.size) (m) w8) := Km7.out.later hn
  have Kr8 : Hid (Bf (w7.heap.size) (r) w8) := by
    have h := ((Bf.new w7 (r)).later (below_grow _ (Nat.le_refl _) (Below.refl _ _) _)).later hb8
    show Bf _ _ _
    simpa using h
  clear hal hn hb8
  go_wp2
  go_ret2
  exact ⟨rfl, HB8.out⟩
set_option maxHeartbeats 6400000 in
set_option maxRecDepth 100000 in
theorem safe_ok (ao : Option Addr) (cap : Nat) (l : List Bx) (a : Bx) (p : Pt) (w : World) (hL : Bxs w ao l) (hll : l.length ≤ 9223372036854775807) (H : Int) (hr : rlist l [a] = 0) (hp : nearP p = true) (hH : Least l (wayX a p) (wayY a p) H) (hn : nearB (movB (endB a p) ⟨0, 0, H⟩) = true) : Calls Try.prog 71 #[.slice ao l.length cap, bv a, pv p] w fun e w' => e = .returned (.tuple #[.int .i64 H, .int .i64 0]) ∧ Below w.heap.size w w' := by
  have HL : Hid (Bxs w ao l) := hL
  clear hL
  have ha : bad1 a = 0 := by have := (rlist_zero.1 hr).2.2; rwa [badL_one] at this
  have hf := safe_facts ha hp
  have hl40 : l.length ≤ 40 := (rlist_zero.1 hr).1
  have HG : Hid (badL l = 0) := (rlist_zero.1 hr).2.1
  have hin := least_in HG.out hH hf.z0 hf.z1
  obtain ⟨k, hk⟩ : ∃ k, k = cornerB a p := ⟨_, rfl⟩
  obtain ⟨m, hm⟩ : ∃ m, m = movB k ⟨0, p.y, 0⟩ := ⟨_, rfl⟩
  obtain ⟨r, hrr⟩ : ∃ r, r = movB m ⟨0, 0, H⟩ := ⟨_, rfl⟩
  have HK : Hid (k = movB a ⟨p.x, 0, 0⟩) := hk
  have HM : Hid (m = movB k ⟨0, p.y, 0⟩) := hm
  have HRR : Hid (r = movB m ⟨0, 0, H⟩) := hrr
  have em : endB a p = m := by rw [hm, hk]
  have HLE : Hid (Least l (hullB a k) (hullB k m) H) := by show Least _ _ _ _; rw [← em, hk]; exact hH
  have HF : Hid (SmB (hullB a k) ∧ SmB (hullB k m) ∧ (hullB a k).lz = (hullB k m).lz ∧ -30000000 ≤ (hullB a k).lz ∧ (hullB a k).lz ≤ 30000000) := by
    show _ ∧ _
    rw [← em, hk]
    exact ⟨hf.kx, hf.ky, hf.hz, Int.le_trans (by decide) hf.z0, Int.le_trans hf.z1 (by decide)⟩
  have HSA : Hid (SmB a ∧ SmP ⟨p.x, 0, 0⟩) := ⟨hf.ka, hf.px⟩
  have HSK : Hid (SmB k ∧ SmP ⟨0, p.y, 0⟩) := by show _ ∧ _; rw [hk]; exact ⟨hf.kc, hf.py⟩
  have HSM : Hid (SmB m ∧ SmP ⟨0, 0, H⟩) := by
    refine ⟨by rw [← em]; exact hf.ke, ?_⟩
    unfold SmP
    simp only
    omega
  have HN : Hid (nearB r = true) := by show _ = _; rw [hrr, ← em]; exact hn
  have HR : Hid (rlist l [a] = 0) := hr
  have HP : Hid (nearP p = true) := hp
  clear ha hf hin hk hm hrr em hr hp hH hn
  have HB0 : Hid (Below w.heap.size w w) := Below.refl _ _
  go_enter Try.func71, Try.ntmps71
  go_wp2_with fail
  refine (refList1 ao cap l a 0 HR.out ((w.alloc (bo (a))).alloc (po (p))) (w.heap.size + 1 + 1) (by simp) (HL.out.next (below_grow _ (Nat.le_refl _) (below_grow _ (Nat.le_refl _) (Below.refl _ _) _) _)) hll).mono ?_
  rintro e w1 ⟨rfl, hb1⟩
  have hal : Below w.heap.size w (((w.alloc (bo (a))).alloc (po (p))).alloc (bo (a))) := (below_grow _ (Nat.le_refl _) (below_grow _ (Nat.le_refl _) (below_grow _ (Nat.le_refl _) (Below.refl _ _) _) _) _)
  have hn : Below w.heap.size w w1 := hal.trans (hb1.mono hal.size)
  have HB1 : Hid (Below w.heap.size w w1) := HB0.out.trans (hn.mono HB0.out.size)
  have Ka1 : Hid (Bf (w.heap.size) (a) w1) := by
    have h := ((Bf.new w (a)).later (below_grow _ (Nat.le_refl _) (below_grow _ (Nat.le_refl _) (Below.refl _ _) _) _)).later hb1
    show Bf _ _ _
    simpa using h
  have Kp1 : Hid (Pf (w.heap.size + 1) (p) w1) := by
    have h := ((Pf.new (w.alloc (bo (a))) (p)).later (below_grow _ (Nat.le_refl _) (Below.refl _ _) _)).later hb1
    show Pf _ _ _
    simpa using h
  clear hal hn hb1
  obtain ⟨pl, p0, p1, p2⟩ := Kp1.out
  go_wp2_with fail
  refine (near1r p true HP.out w1 w1.heap.size rfl).mono ?_
  rintro e w2 ⟨rfl, hb2⟩
  clear pl p0 p1 p2
  have hal : Below w1.heap.size w1 (w1.alloc (po (p))) := (below_grow _ (Nat.le_refl _) (Below.refl _ _) _)
  have hn : Below w1.heap.size w1 w2 := hal.trans (hb2.mono hal.size)
  have HB2 : Hid (Below w.heap.size w w2) := HB1.out.trans (hn.mono HB1.out.size)
  have Ka2 : Hid (Bf (w.heap.size) (a) w2) := Ka1.out.later hn
  have Kp2 : Hid (Pf (w.heap.size + 1) (p) w2) := Kp1.out.later hn
  clear hal hn hb2
  obtain ⟨⟨al, a0, a1, a2, a3, a4, a5⟩, af0, af1, af2, af3, af4, af5⟩ := Ka2.out
  simp only [Nat.zero_add] at a1 a2 a3 a4 a5
  obtain ⟨pl, p0, p1, p2⟩ := Kp2.out
  go_wp2_with fail
  refine (moved_r a k ⟨p.x, 0, 0⟩ HK.out HSA.out.1 HSA.out.2 _).mono ?_
  rintro e w3 ⟨rfl, hb3⟩
  clear al a0 a1 a2 a3 a4 a5 af0 af1 af2 af3 af4 af5 pl p0 p1 p2
  have hal : Below w2.heap.size w2 w2 := (Below.refl _ _)
  have hn : Below w2.heap.size w2 w3 := hal.trans (hb3.mono hal.size)
  have HB3 : Hid (Below w.heap.size w w3) := HB2.out.trans (hn.mono HB2.out.size)
  have Ka3 : Hid (Bf (w.heap.size) (a) w3) := Ka2.out.later hn
  have Kp3 : Hid (Pf (w.heap.size + 1) (p) w3) := Kp2.out.later hn
  clear hal hn hb3
  obtain ⟨pl, p0, p1, p2⟩ := Kp3.out
  go_wp2_with fail
  refine (moved_r k m ⟨0, p.y, 0⟩ HM.out HSK.out.1 HSK.out.2 _).mono ?_
  rintro e w4 ⟨rfl, hb4⟩
  clear pl p0 p1 p2
  have hal : Below w3.heap.size w3 (w3.alloc (bo (k))) := (below_grow _ (Nat.le_refl _) (Below.refl _ _) _)
  have hn : Below w3.heap.size w3 w4 := hal.trans (hb4.mono hal.size)
  have HB4 : Hid (Below w.heap.size w w4) := HB3.out.trans (hn.mono HB3.out.size)
  have Ka4 : Hid (Bf (w.heap.size) (a) w4) := Ka3.out.later hn
  have Kp4 : Hid (Pf (w.heap.size + 1) (p) w4) := Kp3.out.later hn
  have Kk4 : Hid (Bf (w3.heap.size) (k) w4) := by
    have h := ((Bf.new w3 (k)).later (Below.refl _ _)).later hb4
    show Bf _ _ _
    simpa using h
  clear hal hn hb4
  go_wp2_with fail
  obtain ⟨w5, hw5⟩ : ∃ w5, w5 = (w4.alloc (bo (m))) := ⟨_, rfl⟩
  have hal : Below w4.heap.size w4 w5 := by rw [hw5]; exact (below_grow _ (Nat.le_refl _) (Below.refl _ _) _)
  have HB5 : Hid (Below w.heap.size w w5) := HB4.out.trans (hal.mono HB4.out.size)
  have Ka5 : Hid (Bf (w.heap.size) (a) w5) := Ka4.out.later hal
  have Kp5 : Hid (Pf (w.heap.size + 1) (p) w5) := Kp4.out.later hal
  have Kk5 : Hid (Bf (w3.heap.size) (k) w5) := Kk4.out.later hal
  have Km5 : Hid (Bf (w4.heap.size) (m) w5) := by
    have h := (Bf.new w4 (m)).later (Below.refl _ _)
    rw [← hw5] at h
    show Bf _ _ _
    simpa using h
  rw [← hw5]
  clear hw5 hal
  obtain ⟨⟨al, a0, a1, a2, a3, a4, a5⟩, af0, af1, af2, af3, af4, af5⟩ := Ka5.out
  simp only [Nat.zero_add] at a1 a2 a3 a4 a5
  obtain ⟨⟨kl, k0, k1, k2, k3, k4, k5⟩, kf0, kf1, kf2, kf3, kf4, kf5⟩ := Kk5.out
  simp only [Nat.zero_add] at k1 k2 k3 k4 k5
  obtain ⟨⟨ml, m0, m1, m2, m3, m4, m5⟩, mf0, mf1, mf2, mf3, mf4, mf5⟩ := Km5.out
  simp only [Nat.zero_add] at m1 m2 m3 m4 m5
  refine region_inv [false, false, false, false, false, false, false, false, false, false, false, true, false, false, false, false, false, false, false, false, false, false, false, false, false, false, false, false, false, false, false, false, false, false, true, true, true, true, true, true, true, true, false, false, false, false, false, false, false, false, false, false, false, false]
    [(34, [], none), (35, [], none), (36, [], none), (37, [35, 36], none), (38, [], none), (39, [], none), (40, [38, 39], none), (41, [34, 37, 40], none), (11, [41], none)]
    (sf8V ao l.length cap a k m H) (by kernel_rfl) (by kernel_rfl) (fun _ _ _ _ h _ => h) ?_ ?_
  · refine ⟨?_, ?_, ?_, ?_, ?_, ?_, ?_, ?_, ?_, trivial⟩
    · intro f wr hb _ K hK
      simp only [over, overL, Nat.reduceAdd]
      go_simp
      exact hK _ _ ⟨_, rfl, by simp only [over, overL, Nat.reduceAdd]; rfl, Below.refl _ _⟩
    · intro f wr hb _ K hK
      have ca0 := cell_later hb a0
      have ca1 := cell_later hb a1
      have ca2 := cell_later hb a2
      have ca3 := cell_later hb a3
      have ca4 := cell_later hb a4
      have ca5 := cell_later hb a5
      simp only [over, overL, Nat.reduceAdd]
      go_simp
      exact hK _ _ ⟨_, rfl, by simp only [over, overL, Nat.reduceAdd]; rfl, Below.refl _ _⟩
    · intro f wr hb _ K hK
      have ck0 := cell_later hb k0
      have ck1 := cell_later hb k1
      have ck2 := cell_later hb k2
      have ck3 := cell_later hb k3
      have ck4 := cell_later hb k4
      have ck5 := cell_later hb k5
      simp only [over, overL, Nat.reduceAdd]
      go_simp
      exact hK _ _ ⟨_, rfl, by simp only [over, overL, Nat.reduceAdd]; rfl, Below.refl _ _⟩
    · intro f wr hb ⟨h35, h36, _⟩ K hK
      have h35 : f 35 = _ := h35
      have h36 : f 36 = _ := h36
      simp only [over, overL, Nat.reduceAdd, h35, h36]
      go_simp
      refine (hull_any a k wr).mono ?_
      rintro e w9 ⟨rfl, hbn⟩
      exact hK _ _ ⟨_, rfl, by simp only [over, overL, Nat.reduceAdd, h35, h36]; rfl, hbn⟩
    · intro f wr hb _ K hK
      have ck0 := cell_later hb k0
      have ck1 := cell_later hb k1
      have ck2 := cell_later hb k2
      have ck3 := cell_later hb k3
      have ck4 := cell_later hb k4
      have ck5 := cell_later hb k5
      simp only [over, overL, Nat.reduceAdd]
      go_simp
      exact hK _ _ ⟨_, rfl, by simp only [over, overL, Nat.reduceAdd]; rfl, Below.refl _ _⟩
    · intro f wr hb _ K hK
      have cm0 := cell_later hb m0
      have cm1 := cell_later hb m1
      have cm2 := cell_later hb m2
      have cm3 := cell_later hb m3
      have cm4 := cell_later hb m4
      have cm5 := cell_later hb m5
      simp only [over, overL, Nat.reduceAdd]
      go_simp
      exact hK _ _ ⟨_, rfl, by simp only [over, overL, Nat.reduceAdd]; rfl, Below.refl _ _⟩
    · intro f wr hb ⟨h38, h39, _⟩ K hK
      have h38 : f 38 = _ := h38
      have h39 : f 39 = _ := h39
      simp only [over, overL, Nat.reduceAdd, h38, h39]
      go_simp
      refine (hull_any k m wr).mono ?_
      rintro e w9 ⟨rfl, hbn⟩
      exact hK _ _ ⟨_, rfl, by simp only [over, overL, Nat.reduceAdd, h38, h39]; rfl, hbn⟩
    · intro f wr hb ⟨h34, h37, h40, _⟩ K hK
      have h34 : f 34 = _ := h34
      have h37 : f 37 = _ := h37
      have h40 : f 40 = _ := h40
      simp only [over, overL, Nat.reduceAdd, h34, h37, h40]
      go_simp
      refine (least_any ao cap l (hullB a k) (hullB k m) H wr (HL.out.next (HB5.out.trans (hb.mono HB5.out.size))) hl40 HG.out HF.out.1 HF.out.2.1 HF.out.2.2.1 HF.out.2.2.2.1 HF.out.2.2.2.2 HLE.out).mono ?_
      rintro e w9 ⟨rfl, hbn⟩
      exact hK _ _ ⟨_, rfl, by simp only [over, overL, Nat.reduceAdd, h34, h37, h40]; rfl, hbn⟩
    · intro f wr hb ⟨h41, _⟩ K hK
      have h41 : f 41 = _ := h41
      simp only [over, overL, Nat.reduceAdd, h41]
      go_simp
      exact hK _ _ ⟨_, rfl, by simp only [over, overL, Nat.reduceAdd, h41]; rfl, Below.refl _ _⟩
  intro f6 w6 hn h
  have hs11 : f6 11 = .int .i64 H := h.2.2.2.2.2.2.2.2.1
  clear al a0 a1 a2 a3 a4 a5 af0 af1 af2 af3 af4 af5 kl k0 k1 k2 k3 k4 k5 kf0 kf1 kf2 kf3 kf4 kf5 ml m0 m1 m2 m3 m4 m5 mf0 mf1 mf2 mf3 mf4 mf5
  have HB6 : Hid (Below w.heap.size w w6) := HB5.out.trans (hn.mono HB5.out.size)
  have Ka6 : Hid (Bf (w.heap.size) (a) w6) := Ka5.out.later hn
  have Kp6 : Hid (Pf (w.heap.size + 1) (p) w6) := Kp5.out.later hn
  have Kk6 : Hid (Bf (w3.heap.size) (k) w6) := Kk5.out.later hn
  have Km6 : Hid (Bf (w4.heap.size) (m) w6) := Km5.out.later hn
  clear h hn
  obtain ⟨⟨ml, m0, m1, m2, m3, m4, m5⟩, mf0, mf1, mf2, mf3, mf4, mf5⟩ := Km6.out
  simp only [Nat.zero_add] at m1 m2 m3 m4 m5
  simp only [over_eq, overL, Nat.reduceAdd, hs11]
  clear hs11
  go_wp2_with fail
  refine (moved_r m r ⟨0, 0, H⟩ HRR.out HSM.out.1 HSM.out.2 _).mono ?_
  rintro e w7 ⟨rfl, hb7⟩
  clear ml m0 m1 m2 m3 m4 m5 mf0 mf1 mf2 mf3 mf4 mf5
  have hal : Below w6.heap.size w6 w6 := (Below.refl _ _)
  have hn : Below w6.heap.size w6 w7 := hal.trans (hb7.mono hal.size)
  have HB7 : Hid (Below w.heap.size w w7) := HB6.out.trans (hn.mono HB6.out.size)
  have Ka7 : Hid (Bf (w.heap.size) (a) w7) := Ka6.out.later hn
  have Kp7 : Hid (Pf (w.heap.size + 1) (p) w7) := Kp6.out.later hn
  have Kk7 : Hid (Bf (w3.heap.size) (k) w7) := Kk6.out.later hn
  have Km7 : Hid (Bf (w4.heap.size) (m) w7) := Km6.out.later hn
  clear hal hn hb7
  go_wp2_with fail
  refine (near2r r true HN.out (w7.alloc (bo (r))) (w7.heap.size + 1) (by simp)).mono ?_
  rintro e w8 ⟨rfl, hb8⟩
  have hal : Below w7.heap.size w7 ((w7.alloc (bo (r))).alloc (bp r)) := (below_grow _ (Nat.le_refl _) (below_grow _ (Nat.le_refl _) (Below.refl _ _) _) _)
  have hn : Below w7.heap.size w7 w8 := hal.trans (hb8.mono hal.size)
  have HB8 : Hid (Below w.heap.size w w8) := HB7.out.trans (hn.mono HB7.out.size)
  have Ka8 : Hid (Bf (w.heap.size) (a) w8) := Ka7.out.later hn
  have Kp8 : Hid (Pf (w.heap.size + 1) (p) w8) := Kp7.out.later hn
  have Kk8 : Hid (Bf (w3.heap.size) (k) w8) := Kk7.out.later hn
  have Km8 : Hid (Bf (w4.heap.size) (m) w8) := Km7.out.later hn
  have Kr8 : Hid (Bf (w7.heap.size) (r) w8) := by
    have h := ((Bf.new w7 (r)).later (below_grow _ (Nat.le_refl _) (Below.refl _ _) _)).later hb8
    show Bf _ _ _
    simpa using h
  clear hal hn hb8
  go_wp2
  go_ret2
  exact ⟨rfl, HB8.out⟩

end Go.Proofs.Ytgelbndbkmedlaa.S

/- across, lift walked. -/
namespace Go.Proofs.Ytgelbndbkmedlaa.S
open Go.RowKit
attribute [local go_sem] Oper.semAt_some
/-- From above one point, along X and then along Y, to above the other. -/
def acrossL (p q : Pt) (h : Int) : List Pt := [⟨p.x, p.y, h⟩, ⟨q.x, p.y, h⟩, ⟨q.x, q.y, h⟩]
def IsPn (l : List Pt) (v : Value) (w : World) : Prop := ∃ ao cap, v = .slice ao l.length cap ∧ Pns w ao l
theorem IsPn.later {l : List Pt} {v : Value} {w w' : World} (h : IsPn l v w) (hb : Below w.heap.size w w') : IsPn l v w' := by
  obtain ⟨ao, cap, h1, h2⟩ := h
  exact ⟨ao, cap, h1, h2.next hb⟩
theorem across_any (p q : Pt) (h : Int) (w : World) :
    Calls Try.prog 24 #[pv p, pv q, .int .i64 h] w fun e w' => (∃ ao, e = .returned (.slice ao 3 3) ∧ Pns w' ao (acrossL p q h)) ∧ Below w.heap.size w w' := by
  go_enter Try.func24, Try.ntmps24
  go_wp2
  go_ret
  refine ⟨⟨_, rfl, .inr ⟨_, 0, rfl, fun k hk => ?_⟩⟩, ((((Below.refl _ _).alloc (Nat.le_refl _) _).alloc (by simp) _).alloc (by simp; omega) _)⟩
  match k, hk with
  | 0, _ => exact ⟨by simp, by go_simp; rfl, by go_simp; rfl, by go_simp; rfl⟩
  | 1, _ => exact ⟨by simp, by go_simp; rfl, by go_simp; rfl, by go_simp; rfl⟩
  | 2, _ => exact ⟨by simp, by go_simp; rfl, by go_simp; rfl, by go_simp; rfl⟩
/-- The height that is enough for what stands still. -/
theorem way_z (a : Bx) : (wayX a ⟨0, 0, 0⟩).lz = (wayY a ⟨0, 0, 0⟩).lz := by simp only [wayX, wayY, cornerB, endB, movB, hullB]; omega
/-- What space.Safe answers of what stands still. -/
def SafeIs (l : List Bx) (a : Bx) (r : Int × Int) : Prop := ∃ H, Least l (wayX a ⟨0, 0, 0⟩) (wayY a ⟨0, 0, 0⟩) H ∧ r = if nearB (movB (endB a ⟨0, 0, 0⟩) ⟨0, 0, H⟩) = true then (H, 0) else (0, 2)
theorem safeIs_exists (l : List Bx) (a : Bx) : ∃ r, SafeIs l a r := by
  obtain ⟨H, hH⟩ := least_exists l (wayX a ⟨0, 0, 0⟩) (wayY a ⟨0, 0, 0⟩) (way_z a)
  exact ⟨_, H, hH, rfl⟩
theorem safes_exist (l : List Bx) : ∃ sf : Bx → Int × Int, ∀ a, SafeIs l a (sf a) := ⟨fun a => Classical.choose (safeIs_exists l a), fun a => Classical.choose_spec (safeIs_exists l a)⟩
theorem safe0_any (ao : Option Addr) (cap : Nat) (l : List Bx) (a : Bx) (r : Int × Int) (w : World) (hL : Bxs w ao l) (hl : l.length ≤ 40) (hg : badL l = 0) (ha : bad1 a = 0) (hs : SafeIs l a r) :
    Calls Try.prog 71 #[.slice ao l.length cap, bv a, pv ⟨0, 0, 0⟩] w fun e w' => e = .returned (.tuple #[.int .i64 r.1, .int .i64 r.2]) ∧ Below w.heap.size w w' := by
  have hr : rlist l [a] = 0 := rlist_zero.2 ⟨hl, hg, by rw [badL_one]; exact ha⟩
  obtain ⟨H, hH, rfl⟩ := hs
  cases hn : nearB (movB (endB a ⟨0, 0, 0⟩) ⟨0, 0, H⟩) with
  | true => exact safe_ok ao cap l a ⟨0, 0, 0⟩ w hL (by omega) H hr (by decide) hH hn
  | false => exact safe_out ao cap l a ⟨0, 0, 0⟩ w hL (by omega) H hr (by decide) hH hn
theorem safe0_in {l : List Bx} {a : Bx} {r : Int × Int} (hg : badL l = 0) (ha : bad1 a = 0) (hs : SafeIs l a r) : 0 ≤ r.1 ∧ r.1 ≤ 20000000 := by
  have h := bad1_iff.1 ha
  obtain ⟨H, hH, rfl⟩ := hs
  have := least_in hg hH (by simp only [wayX, cornerB, movB, hullB]; omega) (by simp only [wayX, cornerB, movB, hullB]; omega)
  split
  · exact this
  · simp
theorem safe0_nil {a : Bx} {r : Int × Int} (ha : bad1 a = 0) (hs : SafeIs [] a r) : r = (0, 0) := by
  obtain ⟨H, hH, rfl⟩ := hs
  have h0 : H = 0 := by
    obtain ⟨_, _, _, h | ⟨b, hb, _⟩⟩ := hH
    · exact h
    · cases hb
  have h := bad1_iff.1 ha
  rw [h0, if_pos]
  rw [nearB_iff]
  simp only [endB, cornerB, movB]
  omega
/-- The sweep, where the tool may be at both points. -/
theorem far_no {a : Bx} {p : Pt} (ha : bad1 a = 0) : farB a p = false ↔ nearP p = true ∧ nearB (movB a p) = true := by
  unfold farB moveR
  rw [if_pos ha]
  cases nearP p with
  | false => simp
  | true =>
    cases nearB (movB a p) with
    | false => simp
    | true => simp
theorem move_good {a : Bx} {p : Pt} (ha : bad1 a = 0) (h : nearB (movB a p) = true) : bad1 (movB a p) = 0 := by
  have h1 := bad1_iff.1 ha
  rw [bad1_ok]
  refine ⟨h, atMost_iff.2 ?_⟩
  simp only [movB]
  omega
theorem sweepT_ok {a : Bx} {p q : Pt} (ha : bad1 a = 0) (hp : farB a p = false) (hq : farB a q = false) : sweepT a p q = (hullB (movB a p) (movB a q), 0) ∧ bad1 (hullB (movB a p) (movB a q)) = 0 := by
  have h1 := (far_no ha).1 hp
  have h2 := (far_no ha).1 hq
  have e1 := moveR_ok ha h1.1 h1.2
  have e2 := moveR_ok ha h2.1 h2.2
  have g1 := move_good ha h1.2
  have g2 := move_good ha h2.2
  refine ⟨?_, hull_good g1 g2⟩
  unfold sweepT
  rw [e1, e2, if_pos rfl, if_pos rfl, hullR_ok g1 g2]
theorem sweepT_far {a : Bx} {p q : Pt} (h : (sweepT a p q).2 = 0) : farB a p = false ∧ farB a q = false := by
  by_cases h1 : (moveR a p).2 = 0
  · by_cases h2 : (moveR a q).2 = 0
    · exact ⟨by unfold farB; simp [h1], by unfold farB; simp [h2]⟩
    · unfold sweepT at h
      rw [if_pos h1, if_neg h2] at h
      exact absurd h h2
  · unfold sweepT at h
    rw [if_neg h1] at h
    exact absurd h h1
theorem sweepT_good {a : Bx} {p q : Pt} (ha : bad1 a = 0) (h : (sweepT a p q).2 = 0) : bad1 (sweepT a p q).1 = 0 := by
  obtain ⟨h1, h2⟩ := sweepT_far h
  have := sweepT_ok ha h1 h2
  rw [this.1]
  exact this.2
/-- How far up the tool must be, for each step alone to be free. -/
def liftG (sf : Bx → Int × Int) (a : Bx) : Int → List (Pt × Pt) → Int × Int
  | m, [] => (m, 0)
  | m, s :: r => if (sweepT a s.1 s.2).2 = 0 then (if (sf (sweepT a s.1 s.2).1).2 = 0 then liftG sf a (max m (sf (sweepT a s.1 s.2).1).1) r else (0, (sf (sweepT a s.1 s.2).1).2)) else (0, (sweepT a s.1 s.2).2)
theorem liftG_nil (sf : Bx → Int × Int) (hsf : ∀ x, SafeIs [] x (sf x)) (a : Bx) (ha : bad1 a = 0) : ∀ ss : List (Pt × Pt), (∀ s ∈ ss, farB a s.1 = false ∧ farB a s.2 = false) → liftG sf a 0 ss = (0, 0)
  | [], _ => rfl
  | s :: r, h => by
    have h1 := h s (by simp)
    have h2 := sweepT_ok ha h1.1 h1.2
    rw [liftG, h2.1, if_pos rfl, safe0_nil h2.2 (hsf _), if_pos rfl]
    exact liftG_nil sf hsf a ha r fun x hx => h x (by simp [hx])
theorem liftG_in (l : List Bx) (sf : Bx → Int × Int) (hsf : ∀ x, SafeIs l x (sf x)) (a : Bx) (hg : badL l = 0) (ha : bad1 a = 0) : ∀ (ss : List (Pt × Pt)) (m : Int), 0 ≤ m → m ≤ 20000000 → 0 ≤ (liftG sf a m ss).1 ∧ (liftG sf a m ss).1 ≤ 20000000
  | [], m, h0, h1 => ⟨h0, h1⟩
  | s :: r, m, h0, h1 => by
    rw [liftG]
    split
    · rename_i hs
      have := safe0_in hg (sweepT_good ha hs) (hsf _)
      split
      · exact liftG_in l sf hsf a hg ha r _ (by omega) (by omega)
      · simp
    · simp
theorem liftG_ok (sf : Bx → Int × Int) (a : Bx) : ∀ (ss : List (Pt × Pt)) (m : Int), (liftG sf a m ss).2 = 0 → ∀ s ∈ ss, farB a s.1 = false ∧ farB a s.2 = false
  | [], _, _, s, hs => by cases hs
  | x :: r, m, h, s, hs => by
    rw [liftG] at h
    by_cases h1 : (sweepT a x.1 x.2).2 = 0
    · rw [if_pos h1] at h
      by_cases h2 : (sf (sweepT a x.1 x.2).1).2 = 0
      · rw [if_pos h2] at h
        rcases List.mem_cons.1 hs with rfl | hs
        · exact sweepT_far h1
        · exact liftG_ok sf a r _ h s hs
      · rw [if_neg h2] at h
        exact absurd h h2
    · rw [if_neg h1] at h
      exact absurd h h1
end Go.Proofs.Ytgelbndbkmedlaa.S

/- lift walked. -/
namespace Go.Proofs.Ytgelbndbkmedlaa.S
open Go.RowKit
attribute [local go_sem] Oper.semAt_some
/-- What holds between two steps of a way that is lifted. -/
structure LfI (w : World) (ao : Option Addr) (cap : Nat) (l : List Bx) (sf : Bx → Int × Int) (a : Bx) (pre : List (Pt × Pt)) (W : World) : Prop where
  most : ∃ m, 0 ≤ m ∧ m ≤ 20000000 ∧ Bk (w.heap.size + 4) [.int .i64 m] W ∧ ∀ r, liftG sf a 0 (pre ++ r) = liftG sf a m r
  bx : Bk w.heap.size [.slice ao l.length cap] W
  tool : Bk (w.heap.size + 1) (bcl a) W
  r0 : Bk (w.heap.size + 2) [.int .i64 0] W
  r1 : Bk (w.heap.size + 3) [.int .i64 0] W
  below : Below w.heap.size w W
structure LfX (w : World) (sf : Bx → Int × Int) (a : Bx) (pre : List (Pt × Pt)) (W : World) : Prop where
  some : ∃ e, Bk (w.heap.size + 3) [.int .i64 e] W ∧ ∀ r, liftG sf a 0 (pre ++ r) = (0, e)
  r0 : Bk (w.heap.size + 2) [.int .i64 0] W
  below : Below w.heap.size w W
theorem LfI.kpt {w : World} {ao : Option Addr} {cap : Nat} {l : List Bx} {sf : Bx → Int × Int} {a : Bx} {pre : List (Pt × Pt)} {A B : World} {M : Nat → Prop} (h : LfI w ao cap l sf a pre A) (hk : Kpt M A B) (hM : ∀ k, M k → w.heap.size + 5 ≤ k) : LfI w ao cap l sf a pre B := by
  obtain ⟨⟨m, m0, m1, m2, m3⟩, h1, h2, h3, h4, h5⟩ := h
  have q : ∀ j, j < 5 → ¬ M (w.heap.size + j) := fun j hj e => by have := hM _ e; omega
  exact ⟨⟨m, m0, m1, bk_kpt m2 hk (q 4 (by decide)), m3⟩, bk_kpt h1 hk (q 0 (by decide)), bk_kpt h2 hk (q 1 (by decide)), bk_kpt h3 hk (q 2 (by decide)), bk_kpt h4 hk (q 3 (by decide)), h5.trans (hk.below h5.size fun k e => by have := hM k e; omega)⟩
theorem LfX.kpt {w : World} {sf : Bx → Int × Int} {a : Bx} {pre : List (Pt × Pt)} {A B : World} {M : Nat → Prop} (h : LfX w sf a pre A) (hk : Kpt M A B) (hM : ∀ k, M k → w.heap.size + 5 ≤ k) : LfX w sf a pre B := by
  obtain ⟨⟨e, h1, h2⟩, h3, h4⟩ := h
  have q : ∀ j, j < 5 → ¬ M (w.heap.size + j) := fun j hj e => by have := hM _ e; omega
  exact ⟨⟨e, bk_kpt h1 hk (q 3 (by decide)), h2⟩, bk_kpt h3 hk (q 2 (by decide)), h4.trans (hk.below h4.size fun k e => by have := hM k e; omega)⟩
abbrev Mlf (w : World) : Nat → Prop := fun k => w.heap.size + 2 ≤ k ∧ k ≤ w.heap.size + 4
theorem kset {M : Nat → Prop} {W w2 : World} {b : Nat} (h : Kpt M W w2) (hM : M b) (k : Nat) (v : Value) : Kpt M W (w2.setCell ⟨b, k, none⟩ v) := h.trans (Kpt.setCell (M := M) _ _ _ _ hM)
theorem lf_more {w W w4 : World} {ao : Option Addr} {cap : Nat} {l : List Bx} {sf : Bx → Int × Int} {a : Bx} {pre pre' : List (Pt × Pt)} {m m' : Int} (h : LfI w ao cap l sf a pre w4) (hb : Below W.heap.size W w4) (hm : Bk (w.heap.size + 4) [.int .i64 m] w4) (h0 : 0 ≤ m') (h1 : m' ≤ 20000000) (hn : ∀ r, liftG sf a 0 (pre' ++ r) = liftG sf a m' r) :
    Kpt (Mlf w) W (w4.setCell ⟨w.heap.size + 4, 0, none⟩ (.int .i64 m')) ∧ LfI w ao cap l sf a pre' (w4.setCell ⟨w.heap.size + 4, 0, none⟩ (.int .i64 m')) := by
  refine ⟨kset (Kpt.of_below hb) (by show _ ∧ _; omega) _ _, ⟨m', h0, h1, hm.put 0 _, hn⟩, h.bx.other (by omega) _ _, h.tool.other (by omega) _ _, h.r0.other (by omega) _ _, h.r1.other (by omega) _ _, h.below.setCell (by show w.heap.size ≤ w.heap.size + 4; omega) _⟩
theorem lf_left {w W w4 : World} {ao : Option Addr} {cap : Nat} {l : List Bx} {sf : Bx → Int × Int} {a : Bx} {pre pre' : List (Pt × Pt)} {e : Int} (h : LfI w ao cap l sf a pre w4) (hb : Below W.heap.size W w4) (hn : ∀ r, liftG sf a 0 (pre' ++ r) = (0, e)) :
    Kpt (Mlf w) W ((w4.setCell ⟨w.heap.size + 2, 0, none⟩ (.int .i64 0)).setCell ⟨w.heap.size + 3, 0, none⟩ (.int .i64 e)) ∧ LfX w sf a pre' ((w4.setCell ⟨w.heap.size + 2, 0, none⟩ (.int .i64 0)).setCell ⟨w.heap.size + 3, 0, none⟩ (.int .i64 e)) :=
  ⟨kset (kset (Kpt.of_below hb) (by show _ ∧ _; omega) _ _) (by show _ ∧ _; omega) _ _, ⟨e, (h.r1.other (by omega) _ _).put 0 _, hn⟩, (h.r0.put 0 _).other (by omega) _ _, (h.below.setCell (by show w.heap.size ≤ w.heap.size + 2; omega) _).setCell (by show w.heap.size ≤ w.heap.size + 3; omega) _⟩
theorem lf_left2 {w W w4 : World} {ao : Option Addr} {cap : Nat} {l : List Bx} {sf : Bx → Int × Int} {a : Bx} {pre pre' : List (Pt × Pt)} {e : Int} (h : LfI w ao cap l sf a pre w4) (hb : Below W.heap.size W w4) (hn : ∀ r, liftG sf a 0 (pre' ++ r) = (0, e)) (o : Obj) :
    Kpt (Mlf w) W (((w4.setCell ⟨w.heap.size + 2, 0, none⟩ (.int .i64 0)).setCell ⟨w.heap.size + 3, 0, none⟩ (.int .i64 e)).alloc o) ∧ LfX w sf a pre' (((w4.setCell ⟨w.heap.size + 2, 0, none⟩ (.int .i64 0)).setCell ⟨w.heap.size + 3, 0, none⟩ (.int .i64 e)).alloc o) := by
  obtain ⟨h1, h2⟩ := lf_left h hb hn
  have hb2 := (Below.refl _ ((w4.setCell ⟨w.heap.size + 2, 0, none⟩ (.int .i64 0)).setCell ⟨w.heap.size + 3, 0, none⟩ (.int .i64 e))).alloc (Nat.le_refl _) o
  exact ⟨h1.trans (Kpt.of_below hb2), h2.kpt (M := fun _ => False) (Kpt.of_below hb2) (fun _ h => h.elim)⟩
set_option maxHeartbeats 6400000 in
set_option maxRecDepth 100000 in
theorem lift_any (ao ao' : Option Addr) (cap cap' : Nat) (l : List Bx) (sf : Bx → Int × Int) (hsf : ∀ x, SafeIs l x (sf x)) (a : Bx) (way : List Pt) (w : World) (hL : Bxs w ao l) (hl : l.length ≤ 40) (hg : badL l = 0) (ha : bad1 a = 0) (hA : Pns w ao' way) (hw : way.length ≤ 9223372036854775807) :
    Calls Try.prog 51 #[.slice ao l.length cap, bv a, .slice ao' way.length cap'] w fun e w' => e = .returned (.tuple #[.int .i64 (liftG sf a 0 (stepsL way)).1, .int .i64 (liftG sf a 0 (stepsL way)).2]) ∧ Below w.heap.size w w' := by
  have HL : Hid (Bxs w ao l) := hL
  have HA : Hid (Pns w ao' way) := hA
  have HG : Hid (badL l = 0) := hg
  have HBA : Hid (bad1 a = 0) := ha
  have HSFS : Hid (∀ x, SafeIs l x (sf x)) := hsf
  clear hL hA hg ha hsf
  refine (callsIn_wide (n := 3)).1 (callsIn_of_wp_marks Try.func51 rfl trivial (wpIn_wide.2 ?_) rfl)
  simp only [Try.ntmps51, List.size_toArray, List.length_cons, List.length_nil, Nat.reduceAdd, Nat.reduceSub, Array.replicate_succ, Array.replicate_zero, List.push_toArray, List.append_toArray, List.nil_append, List.cons_append]
  obtain ⟨w5, hw5⟩ : ∃ x, x = ((((w.alloc (.cells #[.slice ao l.length cap] 46)).alloc (bo a)).alloc (.cells #[.int .i64 0] 3)).alloc (.cells #[.int .i64 0] 28)).alloc (.cells #[.int .i64 0] 3) := ⟨_, rfl⟩
  have b5 : Below w.heap.size w w5 := by rw [hw5]; exact (((((Below.refl _ _).alloc (Nat.le_refl _) _).alloc (by simp) _).alloc (by simp; omega) _).alloc (by simp; omega) _).alloc (by simp; omega) _
  have s5 : w5.heap.size = w.heap.size + 5 := by rw [hw5]; simp
  have q : ∀ (x : World) (o : Obj), Below x.heap.size x (x.alloc o) := fun x o => (Below.refl _ _).alloc (Nat.le_refl _) _
  have HI5 : Hid (LfI w ao cap l sf a [] w5) := by
    show LfI _ _ _ _ _ _ _ _
    rw [hw5]
    refine ⟨⟨0, Int.le_refl _, by decide, Bk.new _ [.int .i64 0] 3 _ (by simp), fun r => rfl⟩, ?_, ?_, ?_, ?_, ?_⟩
    · exact ((((Bk.new w [.slice ao l.length cap] 46 _ rfl).later (q _ _)).later (q _ _)).later (q _ _)).later (q _ _)
    · exact (((Bk.new _ (bcl a) 26 _ (by simp)).later (q _ _)).later (q _ _)).later (q _ _)
    · exact ((Bk.new _ [.int .i64 0] 3 _ (by simp)).later (q _ _)).later (q _ _)
    · exact (Bk.new _ [.int .i64 0] 28 _ (by simp)).later (q _ _)
    · rw [← hw5]; exact b5
  have HB5 : Hid (Below w.heap.size w w5) := b5
  have HW5 : Hid (w5 = ((((w.alloc (.cells #[.slice ao l.length cap] 46)).alloc (bo a)).alloc (.cells #[.int .i64 0] 3)).alloc (.cells #[.int .i64 0] 28)).alloc (.cells #[.int .i64 0] 3)) := hw5
  have HS5 : Hid (w5.heap.size = w.heap.size + 5) := s5
  clear hw5 b5 q s5
  go_wp2_with fail
  rw [← HW5.out]
  refine (steps_any ao' way.length cap' w5).mono ?_
  rintro e w1 ⟨rfl, rfl⟩
  obtain ⟨wR, hwR⟩ : ∃ x, x = w5.alloc (.cells #[.slice ao' way.length cap'] 27) := ⟨_, rfl⟩
  have hsR : wR.heap.size = w.heap.size + 6 := by rw [hwR]; simp [HS5.out]
  have bR : Below w5.heap.size w5 wR := by rw [hwR]; exact (Below.refl _ _).alloc (Nat.le_refl _) _
  have KC : Hid (Bk (w.heap.size + 5) [.slice ao' way.length cap'] wR) := by
    show Bk _ _ _
    rw [hwR]
    exact Bk.new w5 [.slice ao' way.length cap'] 27 _ HS5.out.symm
  have HIR : Hid (LfI w ao cap l sf a [] wR) := HI5.out.kpt (M := fun _ => False) (Kpt.of_below bR) (fun _ h => h.elim)
  have HBR : Hid (Below w.heap.size w wR) := HIR.out.below
  have h5 := HS5.out
  rw [← hwR]
  clear hwR bR
  go_wp2_with fail
  refine range_leave (n := 3) (gf := 64) (lb := #[ptr (w.heap.size + 5)]) rfl enSt (fun k => w.heap.size + 2 ≤ k ∧ k ≤ w.heap.size + 4)
    (· <+: stepsL way) (· = stepsL way) (fun s : Pt × Pt => #[pv s.1, pv s.2]) (fun _ => rfl) ?_ (by rw [hsR]; omega) (by rw [hsR]; omega)
    (LfI w ao cap l sf a) (LfX w sf a) (fun s A B h hk => h.kpt hk (fun k e => by omega)) (fun s A B h hk => h.kpt hk (fun k e => by omega)) HIR.out
    (fun s a1 A => ∃ (g1 g2 : Nat) (v0 v1 v2 v5 v11 v12 v13 v14 v15 v18 v19 v20 v21 v22 v23 v24 v25 v26 v27 v28 v29 v30 v31 v32 v33 v34 v35 v36 v37 v38 v39 v40 v41 : Value), (wR.heap.size + 2 ≤ g1 ∧ wR.heap.size + 2 ≤ g2) ∧ a1 = { tmps := #[v0, v1, v2, ptr w.heap.size, ptr (w.heap.size + 1), v5, ptr (w.heap.size + 2), ptr (w.heap.size + 3), ptr (w.heap.size + 4), ptr g1, ptr g2, v11, v12, v13, v14, v15, pv s.1, pv s.2, v18, v19, v20, v21, v22, v23, v24, v25, v26, v27, v28, v29, v30, v31, v32, v33, v34, v35, v36, v37, v38, v39, v40, v41], defers := [] } ∧ Bk g1 (pcl s.1) A ∧ Bk g2 (pcl s.2) A) ?_ ?_ ?_ ?_ ?_
  · intro W hb hs
    exact steps_lv 2 ao' cap' way (w.heap.size + 5) (wR.heap.size + 1) _ W ((KC.out.later hb).c 0 rfl) (by omega) ((HA.out.next HBR.out).next hb) hw (by omega) (fun hne ad e => by have := HA.out.lt hne ad e; omega)
  · rintro s a1 A B ⟨g1, g2, v0, v1, v2, v5, v11, v12, v13, v14, v15, v18, v19, v20, v21, v22, v23, v24, v25, v26, v27, v28, v29, v30, v31, v32, v33, v34, v35, v36, v37, v38, v39, v40, v41, hg, h2, h3, h4⟩ hk
    exact ⟨g1, g2, v0, v1, v2, v5, v11, v12, v13, v14, v15, v18, v19, v20, v21, v22, v23, v24, v25, v26, v27, v28, v29, v30, v31, v32, v33, v34, v35, v36, v37, v38, v39, v40, v41, hg, h2, bk_kpt h3 hk (by omega), bk_kpt h4 hk (by omega)⟩
  · intro lp pre s W K hI hpre hs hK
    have HKK : Hid _ := hK
    have K1 : Hid (Bk W.heap.size (pcl s.1) ((W.alloc (po s.1)).alloc (po s.2))) := (Bk.new W (pcl s.1) 24 W.heap.size rfl).later ((Below.refl _ _).alloc (Nat.le_refl _) _)
    have K2 : Hid (Bk (W.heap.size + 1) (pcl s.2) ((W.alloc (po s.1)).alloc (po s.2))) := Bk.new (W.alloc (po s.1)) (pcl s.2) 24 (W.heap.size + 1) (by simp)
    clear hK hI
    gi_wp2
    exact HKK.out _ _ ⟨W.heap.size, W.heap.size + 1, _, _, _, _, _, _, _, _, _, _, _, _, _, _, _, _, _, _, _, _, _, _, _, _, _, _, _, _, _, _, _, _, _, by omega, rfl, K1.out, K2.out⟩ (((Below.refl _ _).alloc (Nat.le_refl _) _).alloc (by simp) _)
  · rintro lp pre s a1 W hI hpre hs ⟨g1, g2, v0, v1, v2, v5, v11, v12, v13, v14, v15, v18, v19, v20, v21, v22, v23, v24, v25, v26, v27, v28, v29, v30, v31, v32, v33, v34, v35, v36, v37, v38, v39, v40, v41, hg, rfl, hkA, hkB⟩
    have HI : Hid (LfI w ao cap l sf a pre W) := hI
    obtain ⟨⟨m, hm0, hm1, hmk, hmr⟩, hi1, hi2, hi3, hi4, hi5⟩ := hI
    have HMK : Hid (Bk (w.heap.size + 4) [.int .i64 m] W) := hmk
    have HMR : Hid (∀ r, liftG sf a 0 (pre ++ [s] ++ r) = liftG sf a m (s :: r)) := fun r => by rw [List.append_assoc]; exact hmr _
    have HSW : Hid (∀ X, Calls Try.prog 70 #[bv a, pv s.1, pv s.2] X fun e w' => e = .returned (.tuple #[bv (sweepT a s.1 s.2).1, .int .i64 (sweepT a s.1 s.2).2]) ∧ Below X.heap.size X w') := fun X => sweep_any a s.1 s.2 X
    have HGD : Hid ((sweepT a s.1 s.2).2 = 0 → bad1 (sweepT a s.1 s.2).1 = 0) := sweepT_good HBA.out
    have HST : Hid (∀ r, liftG sf a m (s :: r) = if (sweepT a s.1 s.2).2 = 0 then (if (sf (sweepT a s.1 s.2).1).2 = 0 then liftG sf a (max m (sf (sweepT a s.1 s.2).1).1) r else (0, (sf (sweepT a s.1 s.2).1).2)) else (0, (sweepT a s.1 s.2).2)) := fun r => rfl
    have hW : Hid (∀ X, Below W.heap.size W X → LfI w ao cap l sf a pre X) := fun X h => HI.out.kpt (M := fun _ => False) (Kpt.of_below h) (fun _ h => h.elim)
    generalize sweepT a s.1 s.2 = st at *
    obtain ⟨th, e1⟩ := st
    have a0 := (hkA).c 0 rfl
    have a1 := (hkA).c 1 rfl
    have a2 := (hkA).c 2 rfl
    have b0 := (hkB).c 0 rfl
    have b1 := (hkB).c 1 rfl
    have b2 := (hkB).c 2 rfl
    have t0 := (hi2).c 0 rfl
    have t1 := (hi2).c 1 rfl
    have t2 := (hi2).c 2 rfl
    have t3 := (hi2).c 3 rfl
    have t4 := (hi2).c 4 rfl
    have t5 := (hi2).c 5 rfl
    have ht : w.heap.size + 1 < W.heap.size := hi2.1
    clear hpre hkA hkB hmr hi1 hi2 hi3 hi4 hi5 hmk
    gi_wp2_with fail
    refine ⟨trivial, ?_⟩
    refine (CallsIn.inRound lp (callsIn_wide.2 (HSW.out _))).mono ?_
    rintro e w2 ⟨rfl, hb2⟩
    have HB2 : Hid (Below W.heap.size W w2) := hb2
    have HB3 : Hid (Below W.heap.size W (w2.alloc (bo th))) := hb2.alloc hb2.size _
    clear hb2 HSW a0 a1 a2 b0 b1 b2 t0 t1 t2 t3 t4 t5
    by_cases he1 : e1 = 0
    · subst he1
      have HGT : Hid (bad1 th = 0) := HGD.out rfl
      have HSF : Hid (∀ X, Bxs X ao l → Calls Try.prog 71 #[.slice ao l.length cap, bv th, pv ⟨0, 0, 0⟩] X fun e w' => e = .returned (.tuple #[.int .i64 (sf th).1, .int .i64 (sf th).2]) ∧ Below X.heap.size X w') := fun X h => safe0_any ao cap l th (sf th) X h hl HG.out HGT.out (HSFS.out th)
      have HSI : Hid (0 ≤ (sf th).1 ∧ (sf th).1 ≤ 20000000) := safe0_in HG.out HGT.out (HSFS.out th)
      have HST2 : Hid (∀ r, liftG sf a m (s :: r) = if (sf th).2 = 0 then liftG sf a (max m (sf th).1) r else (0, (sf th).2)) := fun r => by have := HST.out r; simpa using this
      clear HST HGD
      generalize sf th = sv at *
      obtain ⟨ri, e2⟩ := sv
      simp only at HSF HSI HST2
      have x0 := (hW.out _ HB2.out).bx.c 0 rfl
      have hx : w.heap.size < w2.heap.size := (hW.out _ HB2.out).bx.1
      gi_wp2_with fail
      refine ⟨trivial, ?_⟩
      refine (CallsIn.inRound lp (callsIn_wide.2 (HSF.out _ ((HL.out.next HI.out.below).next HB3.out)))).mono ?_
      rintro e w4 ⟨rfl, hb4⟩
      have HB4 : Hid (Below W.heap.size W w4) := HB3.out.trans (hb4.mono HB3.out.size)
      have HI4 : Hid (LfI w ao cap l sf a pre w4) := hW.out _ HB4.out
      have HM4 : Hid (Bk (w.heap.size + 4) [.int .i64 m] w4) := HMK.out.later HB4.out
      clear hb4 HSF x0 hx
      by_cases he2 : e2 = 0
      · subst he2
        have m0 := HM4.out.c 0 rfl
        have mf := HM4.out.f 0 rfl
        obtain ⟨hr0, hr1⟩ := HSI.out
        by_cases hlt : m < ri
        · have HNX : Hid (∀ r, liftG sf a 0 (pre ++ [s] ++ r) = liftG sf a ri r) := fun r => by rw [HMR.out, HST2.out, if_pos rfl, show max m ri = ri by omega]
          gi_wp2
          exact lf_more HI4.out HB4.out HM4.out hr0 hr1 HNX.out
        · have hle : ri ≤ m := by omega
          have HNX : Hid (∀ r, liftG sf a 0 (pre ++ [s] ++ r) = liftG sf a m r) := fun r => by rw [HMR.out, HST2.out, if_pos rfl, show max m ri = m by omega]
          gi_wp2
          exact lf_more HI4.out HB4.out HM4.out hm0 hm1 HNX.out
      · have HNX : Hid (∀ r, liftG sf a 0 (pre ++ [s] ++ r) = (0, e2)) := fun r => by rw [HMR.out, HST2.out, if_neg he2]
        have hne : (e2 != 0) = true := by simp [he2]
        have m0 := HI4.out.r0.c 0 rfl
        have mf := HI4.out.r0.f 0 rfl
        have n0 := HI4.out.r1.c 0 rfl
        have nf := HI4.out.r1.f 0 rfl
        clear he2
        gi_wp2
        exact lf_left HI4.out HB4.out HNX.out
    · have HNX : Hid (∀ r, liftG sf a 0 (pre ++ [s] ++ r) = (0, e1)) := fun r => by rw [HMR.out, HST.out, if_neg he1]
      have hne : (e1 != 0) = true := by simp [he1]
      have HI2 : Hid (LfI w ao cap l sf a pre w2) := hW.out _ HB2.out
      have m0 := HI2.out.r0.c 0 rfl
      have mf := HI2.out.r0.f 0 rfl
      have n0 := HI2.out.r1.c 0 rfl
      have nf := HI2.out.r1.f 0 rfl
      have hx2 : w.heap.size + 2 < w2.heap.size := HI2.out.r0.1
      have hx3 : w.heap.size + 3 < w2.heap.size := HI2.out.r1.1
      clear he1
      gi_wp2
      exact lf_left2 HI2.out HB2.out HNX.out _
  · rintro xs W rfl ⟨⟨m, hm0, hm1, hmk, hmr⟩, h1, h2, h3, h4, h5⟩ hs hd
    have HE : Hid (liftG sf a 0 (stepsL way) = (m, 0)) := by
      show _ = _
      have := hmr []
      rwa [List.append_nil] at this
    have m0 := hmk.c 0 rfl
    have n0 := h3.c 0 rfl
    have nf := h3.f 0 rfl
    have k0 := h4.c 0 rfl
    have kf := h4.f 0 rfl
    have kp : Kpt (fun k => k = wR.heap.size) ((W.setCell ⟨w.heap.size + 2, 0, none⟩ (.int .i64 m)).setCell ⟨w.heap.size + 3, 0, none⟩ (.int .i64 0)) (((W.setCell ⟨w.heap.size + 2, 0, none⟩ (.int .i64 m)).setCell ⟨w.heap.size + 3, 0, none⟩ (.int .i64 0)).putObj wR.heap.size (.deferred none)) := Kpt.putObj _ _ _ _ rfl
    have hd1 : ((W.setCell ⟨w.heap.size + 2, 0, none⟩ (.int .i64 m)).setCell ⟨w.heap.size + 3, 0, none⟩ (.int .i64 0)).heap[wR.heap.size]? = some (.deferred (some [])) := (Below.heap_setCell _ ⟨w.heap.size + 3, 0, none⟩ _ wR.heap.size (by show wR.heap.size ≠ w.heap.size + 3; omega)).trans ((Below.heap_setCell W ⟨w.heap.size + 2, 0, none⟩ _ wR.heap.size (by show wR.heap.size ≠ w.heap.size + 2; omega)).trans hd)
    have j0 := (bk_kpt ((h3.put 0 (.int .i64 m)).other (b' := w.heap.size + 3) (by omega) 0 (.int .i64 0)) kp (by omega)).c 0 rfl
    have j1 := (bk_kpt ((h4.other (b' := w.heap.size + 2) (by omega) 0 (.int .i64 m)).put 0 (.int .i64 0)) kp (by omega)).c 0 rfl
    have b2 := (h5.setCell (p := ⟨w.heap.size + 2, 0, none⟩) (by show w.heap.size ≤ w.heap.size + 2; omega) (.int .i64 m)).setCell (p := ⟨w.heap.size + 3, 0, none⟩) (by show w.heap.size ≤ w.heap.size + 3; omega) (.int .i64 0)
    have HF : Hid (Below w.heap.size w (((W.setCell ⟨w.heap.size + 2, 0, none⟩ (.int .i64 m)).setCell ⟨w.heap.size + 3, 0, none⟩ (.int .i64 0)).putObj wR.heap.size (.deferred none))) := b2.trans (kp.below b2.size (fun k e => by omega))
    have HD1 := (show Hid _ from hd1)
    clear kp b2 h1 h2 h3 h4 h5 hmk hmr hd1
    go_wp2
    exact leave_mark HD1.out (v := .tuple #[.int .i64 m, .int .i64 0]) (by simp [results, Try.results51, go_sem, j0, j1]) ⟨by rw [HE.out], HF.out⟩
  · rintro pre W ⟨t, ht⟩ ⟨⟨e, h1, h2⟩, h3, h4⟩ hs hd
    have HE : Hid (liftG sf a 0 (stepsL way) = (0, e)) := by show _ = _; rw [← ht]; exact h2 t
    have kp : Kpt (fun k => k = wR.heap.size) W (W.putObj wR.heap.size (.deferred none)) := Kpt.putObj _ _ _ _ rfl
    have j0 := (bk_kpt h3 kp (by omega)).c 0 rfl
    have j1 := (bk_kpt h1 kp (by omega)).c 0 rfl
    have HF : Hid (Below w.heap.size w (W.putObj wR.heap.size (.deferred none))) := h4.trans (kp.below h4.size (fun k e => by omega))
    clear kp
    exact leave_mark hd (v := .tuple #[.int .i64 0, .int .i64 e]) (by simp [results, Try.results51, go_sem, j0, j1]) ⟨by rw [HE.out], HF.out⟩
end Go.Proofs.Ytgelbndbkmedlaa.S

/- Regions with edges forward that do not bind. -/
namespace Go.Proofs.Ytgelbndbkmedlaa
open Go.RowKit
section
variable {P : Program} {Q : Exit → Act → World → Prop} {a : Act} {m : List Bool} {V : Nat → Value → World → Prop} {w0 : World} {ops : Array Oper} {plan : Plan} {k : Nat}
theorem seqE_any (hmono : ∀ d v w w', V d v w → Below w.heap.size w w' → V d v w') (hback : backE 0 ops.toList = true) (hnd : nodupB (plan.map (·.1)) = true) (hall : planAll ops m a.tmps.size (ops.toList.take k) plan = true) (hseq : seqB ops k = true) (hk : k ≤ ops.size)
    (hob : Obls P Q a m V w0 (ops.toList.take k) plan) (hsuf : ∀ f w, Below w0.heap.size w0 w → AllP V f w plan → wpList P ops Q (ops.toList.drop k) (over a m f) w) :
    ∀ (fuel : Nat) (listed : Array Bool) (a' : Act) (w : World), listed.size = ops.size → listed.toList.count false ≤ fuel → St P Q a m V w0 ops k listed a' w → wpAny P .any ops Q fuel listed a' w := by
  have hcov : ∀ {listed : Array Bool}, Closed ops listed → ∀ {i : Nat}, i ∈ Region.ready .any ops listed → k ≤ i → ∀ j, j < i → listed[j]? = some true := by
    intro listed hc i hi hki j hj
    obtain ⟨hlt, _, hp⟩ := ready_pre hi
    unfold seqB at hseq
    have h1 := List.all_eq_true.1 hseq i (by simpa using hlt)
    rw [Bool.or_eq_true] at h1
    rcases h1 with h1 | h1
    · simp at h1; omega
    · exact covers_listed hc _ i j hp (List.all_eq_true.1 h1 j (by simpa using hj))
  have htoSuf : ∀ {listed : Array Bool} {a' : Act} {w : World}, Inv a m V w0 ops listed a' w → (∀ j, j < k → listed[j]? = some true) → wpList P ops Q (ops.toList.drop k) a' w := by
    rintro listed a' w ⟨f, rfl, hb, hV⟩ hl
    refine hsuf f w hb (allP_of hall fun i o d ho hd => ?_)
    have hik : i < k := by
      by_cases h : i < k
      · exact h
      · rw [List.getElem?_take, if_neg h] at ho; cases ho
    rw [List.getElem?_take, if_pos hik] at ho
    exact hV i o d (by simpa using ho) hd (hl i hik)
  have hend : ∀ (listed : Array Bool) (a' : Act) (w : World), listed.size = ops.size → St P Q a m V w0 ops k listed a' w → Region.ready .any ops listed = [] → Q .normal a' w := by
    rintro listed a' w hsz ⟨_, h⟩ hr
    have hal := all_listedE hback hsz hr
    rcases h with ⟨hs, hI⟩ | ⟨i, hki, hl, hw⟩
    · have hks : k = ops.size := by
        by_cases h : k < ops.size
        · exact absurd (hal k h) (hs k (Nat.le_refl _))
        · omega
      have := htoSuf hI fun j hj => hal j (by omega)
      rw [List.drop_eq_nil_of_le (by simp; omega)] at this
      exact this
    · have : ops.size ≤ i := by
        by_cases h : i < ops.size
        · have := (hl i h).1 (hal i h); omega
        · omega
      rw [List.drop_eq_nil_of_le (by simpa using this)] at hw
      exact hw
  have hstepL : ∀ {listed : Array Bool} {a' : Act} {w : World} {i : Nat}, i < ops.size → k ≤ i → (∀ j, j < ops.size → (listed[j]? = some true ↔ j < i)) → Closed ops (listed.setIfInBounds i true) → listed.size = ops.size → wpList P ops Q (ops.toList.drop i) a' w →
      wpOp P ops Q i (fun a2 w2 => St P Q a m V w0 ops k (listed.setIfInBounds i true) a2 w2) a' w := by
    intro listed a' w i hi hki hl hc hsz hw
    have hd : ops.toList.drop i = ops[i] :: ops.toList.drop (i + 1) := by
      rw [List.drop_eq_getElem_cons (by simpa using hi)]; simp
    have hnext : ∀ a2 w2, wpList P ops Q (ops.toList.drop (i + 1)) a2 w2 → St P Q a m V w0 ops k (listed.setIfInBounds i true) a2 w2 := fun a2 w2 h =>
      ⟨hc, .inr ⟨i + 1, by omega, fun j hj => by
        rw [Array.getElem?_setIfInBounds]
        by_cases e : i = j
        · subst e; rw [if_pos rfl, if_pos (by omega)]; simp
        · rw [if_neg e, hl j hj]; omega, h⟩⟩
    rw [hd] at hw
    unfold wpList at hw
    unfold wpOp
    rw [show ops[i]? = some ops[i] by simp [hi]]
    simp only
    split
    · rename_i hwn
      rw [if_pos hwn] at hw
      exact hw.imp (Oper.wp_mono hnext) id
    · rename_i hwn
      rw [if_neg hwn] at hw
      exact hnext _ _ hw
  intro fuel
  induction fuel with
  | zero =>
    intro listed a' w hsz hc hI
    have hr : Region.ready .any ops listed = [] := by
      rw [List.eq_nil_iff_forall_not_mem]
      intro i hi
      obtain ⟨hlt, h1, _⟩ := ready_pre hi
      have h0 : listed.toList.count false = 0 := by omega
      rw [List.count_eq_zero] at h0
      have hlt2 : i < listed.size := by omega
      simp only [Array.getD_eq_getD_getElem?, Array.getElem?_eq_getElem hlt2, Option.getD_some] at h1
      exact h0 (by rw [← h1]; simp)
    exact ⟨hr, hend listed a' w hsz hI hr⟩
  | succ fuel ih =>
    intro listed a' w hsz hc hI
    refine ⟨hend listed a' w hsz hI, fun i hi => ?_⟩
    have hrp := ready_pre hi
    have hlt2 : i < listed.size := by omega
    have h1 := hrp.2.1
    simp only [Array.getD_eq_getD_getElem?, Array.getElem?_eq_getElem hlt2, Option.getD_some] at h1
    have hcount : (listed.setIfInBounds i true).toList.count false ≤ fuel := by
      have hl : i < listed.toList.length := by simpa using hlt2
      have h2 : listed.toList[i] = false := by simpa using h1
      rw [Array.toList_setIfInBounds, List.count_set hl, h2]
      have hp : 0 < listed.toList.count false := List.count_pos_iff.2 (by rw [← h2]; exact List.getElem_mem _)
      rw [if_pos (by rfl), if_neg (by decide)]
      omega
    have hnl : listed[i]? ≠ some true := by rw [Array.getElem?_eq_getElem hlt2, h1]; simp
    refine wpOp_mono (K := fun a2 w2 => St P Q a m V w0 ops k (listed.setIfInBounds i true) a2 w2) (fun a2 w2 h2 => ih _ _ _ (by simpa using hsz) hcount h2) ?_
    obtain ⟨hcl, hS⟩ := hI
    have hcl2 := closed_next hcl hi
    rcases hS with ⟨hsu, hI⟩ | ⟨i0, hki, hl, hw⟩
    · by_cases hik : i < k
      · refine wpOp_mono (fun a2 w2 h2 => ⟨hcl2, .inl ⟨fun j hj => ?_, h2⟩⟩) (seq_step hmono hnd hall hob hik hsu hi hI)
        rw [Array.getElem?_setIfInBounds, if_neg (by omega)]
        exact hsu j hj
      · have hlow := hcov hcl hi (by omega)
        have he : i = k := by
          by_cases h : i = k
          · exact h
          · exact absurd (hlow k (by omega)) (hsu k (Nat.le_refl _))
        subst he
        refine hstepL hrp.1 (Nat.le_refl _) (fun j hj => ⟨fun h => ?_, fun h => hlow j h⟩) hcl2 hsz (htoSuf hI hlow)
        by_cases h2 : j < i
        · exact h2
        · exact absurd h (hsu j (by omega))
    · have hge : i0 ≤ i := by
        by_cases h : i < i0
        · exact absurd ((hl i hrp.1).2 h) hnl
        · omega
      have hlow := hcov hcl hi (by omega)
      have he : i = i0 := by
        by_cases h : i = i0
        · exact h
        · have := (hl i0 (by omega)).1 (hlow i0 (by omega)); omega
      subst he
      exact hstepL hrp.1 hki hl hcl2 hsz hw

/-- A region that draws its order and ends in stores. -/
theorem region_seqE {id : Nat} (k : Nat) (m : List Bool) (plan : Plan) (V : Nat → Value → World → Prop) (hmix : P.follows .mixedOrders = true) (hback : backE 0 ops.toList = true) (hnd : nodupB (plan.map (·.1)) = true) (hall : planAll ops m a.tmps.size (ops.toList.take k) plan = true)
    (hseq : seqB ops k = true) (hk : k ≤ ops.size) (hmono : ∀ d v w w', V d v w → Below w.heap.size w w' → V d v w') (hob : Obls P Q a m V w0 (ops.toList.take k) plan)
    (hsuf : ∀ f w, Below w0.heap.size w0 w → AllP V f w plan → wpList P ops Q (ops.toList.drop k) (over a m f) w) : (Code.region id ops true).wp P Q a w0 := by
  refine wp_region_any hmix (seqE_any hmono hback hnd hall hseq hk hob hsuf _ _ _ _ (by simp) (by simp) ⟨?_, .inl ⟨?_, fun k => (a.tmps.toList[k]?).getD undef, (over_start a m).symm, ⟨rfl, rfl, rfl, Nat.le_refl _, fun _ _ => rfl⟩, ?_⟩⟩)
  · intro i o _ h
    simp [Array.getElem?_replicate] at h
  · intro j _ h
    simp [Array.getElem?_replicate] at h
  · intro i o d _ _ h
    simp [Array.getElem?_replicate] at h
end
end Go.Proofs.Ytgelbndbkmedlaa

/- crossing walked. -/
namespace Go.Proofs.Ytgelbndbkmedlaa.S
open Go.RowKit
set_option linter.unusedVariables false in
def cr2V (ao : Option Addr) (n cap : Nat) (a : Bx) (p q : Pt) (hh r e : Int) (d : Nat) (v : Value) (w : World) : Prop :=
  match d with
  | 19 => v = .slice ao n cap
  | 20 => v = .agg #[.int .i64 a.lx, .int .i64 a.ly, .int .i64 a.lz, .int .i64 a.hx, .int .i64 a.hy, .int .i64 a.hz]
  | 21 => v = .agg #[.int .i64 p.x, .int .i64 p.y, .int .i64 p.z]
  | 22 => v = .agg #[.int .i64 q.x, .int .i64 q.y, .int .i64 q.z]
  | 23 => v = .int .i64 hh
  | 24 => IsPn (acrossL p q hh) v w
  | 25 => v = .tuple #[.int .i64 r, .int .i64 e]
  | 18 => v = .tuple #[.int .i64 r, .int .i64 e]
  | 26 => v = .int .i64 r
  | 27 => v = .int .i64 e
  | 11 => v = .int .i64 r
  | 12 => v = .int .i64 e
  | _ => True
set_option linter.unusedVariables false in
theorem cr2V_mono (ao : Option Addr) (n cap : Nat) (a : Bx) (p q : Pt) (hh r e : Int) (d : Nat) (v : Value) (w w' : World) (h : cr2V ao n cap a p q hh r e d v w) (hb : Below w.heap.size w w') : cr2V ao n cap a p q hh r e d v w' := by
  unfold cr2V at h ⊢
  split <;> simp only [] at h <;> first | exact h | exact h.later hb
/-- What crossing answers. -/
structure CrossP (l : List Bx) (a : Bx) (p q : Pt) (H0 h e : Int) : Prop where
  ok : e = 0 → H0 ≤ h ∧ h ≤ 10000000
  nil : l = [] → (∀ s ∈ stepsL (acrossL p q H0), farB a s.1 = false ∧ farB a s.2 = false) → e = 0 ∧ h = H0
theorem across_near {a : Bx} {p q : Pt} {h : Int} (ha : bad1 a = 0) (hs : ∀ s ∈ stepsL (acrossL p q h), farB a s.1 = false ∧ farB a s.2 = false) : h ≤ 10000000 := by
  have h1 := (hs (⟨p.x, p.y, h⟩, ⟨q.x, p.y, h⟩) (by simp [stepsL, acrossL])).1
  have h2 := ((far_no ha).1 h1).1
  have h3 := nearP_iff.1 h2
  simp only at h3
  omega
set_option maxHeartbeats 6400000 in
set_option maxRecDepth 100000 in
theorem crossing_w (ao : Option Addr) (cap : Nat) (l : List Bx) (a : Bx) (p q : Pt) (H0 : Int) (w : World) (hL : Bxs w ao l) (hl : l.length ≤ 40) (hg : badL l = 0) (ha : bad1 a = 0) (hp : nearP p = true) (hq : nearP q = true) (hz : (p.z < q.z ∧ q.z = H0) ∨ (q.z ≤ p.z ∧ p.z = H0)) :
    Calls Try.prog 23 #[.slice ao l.length cap, bv a, pv p, pv q] w fun e w' => ∃ h e1, e = .returned (.tuple #[.int .i64 h, .int .i64 e1]) ∧ CrossP l a p q H0 h e1 ∧ Below w.heap.size w w' := by
  have HL : Hid (Bxs w ao l) := hL
  have HG : Hid (badL l = 0) := hg
  have HBA : Hid (bad1 a = 0) := ha
  obtain ⟨sf, hsf⟩ := safes_exist l
  have HSFS : Hid (∀ x, SafeIs l x (sf x)) := hsf
  clear hsf
  have HI0 : Hid (H0 ≤ 30000000) := by
    have h1 := nearP_iff.1 hp
    have h2 := nearP_iff.1 hq
    show _ ≤ _
    omega
  have HI1 : Hid (-10000000 ≤ H0) := by
    have h1 := nearP_iff.1 hp
    have h2 := nearP_iff.1 hq
    show _ ≤ _
    omega
  have q1 : ∀ (x : World) (o : Obj), Below x.heap.size x (x.alloc o) := fun x o => (Below.refl _ _).alloc (Nat.le_refl _) _
  have KA0 : Hid (Bk w.heap.size (bcl a) (((w.alloc (bo a)).alloc (po p)).alloc (po q))) := ((Bk.new w (bcl a) 26 _ rfl).later (q1 _ _)).later (q1 _ _)
  have KP0 : Hid (Bk (w.heap.size + 1) (pcl p) (((w.alloc (bo a)).alloc (po p)).alloc (po q))) := (Bk.new _ (pcl p) 24 _ (by simp)).later (q1 _ _)
  have KQ0 : Hid (Bk (w.heap.size + 2) (pcl q) (((w.alloc (bo a)).alloc (po p)).alloc (po q))) := Bk.new _ (pcl q) 24 _ (by simp)
  have HB0 : Hid (Below w.heap.size w (((w.alloc (bo a)).alloc (po p)).alloc (po q))) := (((Below.refl _ _).alloc (Nat.le_refl _) _).alloc (by simp) _).alloc (by simp; omega) _
  clear hL hg ha hp hq q1
  go_enter Try.func23, Try.ntmps23
  rcases hz with ⟨hz, hz2⟩ | ⟨hz, hz2⟩
  · have HZ : Hid (q.z = H0) := hz2
    clear hz2
    go_wp2_with fail
    go_loopw [10] (fun i wr => ∃ h : Int, i = .int .i64 h ∧ H0 ≤ h ∧ h ≤ 30000000 ∧ (l = [] → (∀ s ∈ stepsL (acrossL p q H0), farB a s.1 = false ∧ farB a s.2 = false) → h = H0) ∧ Bk w.heap.size (bcl a) wr ∧ Bk (w.heap.size + 1) (pcl p) wr ∧ Bk (w.heap.size + 2) (pcl q) wr ∧ Below w.heap.size w wr) (fun i _ => (10000001 - intOf i).toNat)
    case atStart => exact ⟨H0, by rw [HZ.out], Int.le_refl _, HI0.out, fun _ _ => rfl, KA0.out, KP0.out, KQ0.out, HB0.out⟩
    case round =>
      obtain ⟨h, rfl, hh0, hh1, hnil, hka, hkp, hkq, hb⟩ := hrel
      have KA : Hid (Bk w.heap.size (bcl a) wr) := hka
      have KP : Hid (Bk (w.heap.size + 1) (pcl p) wr) := hkp
      have KQ : Hid (Bk (w.heap.size + 2) (pcl q) wr) := hkq
      have HB : Hid (Below w.heap.size w wr) := hb
      have HNIL : Hid (l = [] → (∀ s ∈ stepsL (acrossL p q H0), farB a s.1 = false ∧ farB a s.2 = false) → h = H0) := hnil
      have HLL : Hid (∀ W, Below wr.heap.size wr W → Bxs W ao l) := fun W hW => (HL.out.next HB.out).next hW
      have HAC : Hid (∀ W, Calls Try.prog 24 #[pv p, pv q, .int .i64 h] W fun e w' => (∃ ao, e = .returned (.slice ao 3 3) ∧ Pns w' ao (acrossL p q h)) ∧ Below W.heap.size W w') := fun W => across_any p q h W
      have HLF : Hid (∀ ao3 cap3 W, Bxs W ao l → Pns W ao3 (acrossL p q h) → Calls Try.prog 51 #[.slice ao l.length cap, bv a, .slice ao3 (acrossL p q h).length cap3] W fun e w' => e = .returned (.tuple #[.int .i64 (liftG sf a 0 (stepsL (acrossL p q h))).1, .int .i64 (liftG sf a 0 (stepsL (acrossL p q h))).2]) ∧ Below W.heap.size W w') :=
        fun ao3 cap3 W h1 h2 => lift_any ao ao3 cap cap3 l sf HSFS.out a (acrossL p q h) W h1 hl HG.out HBA.out h2 (by simp [acrossL])
      have HIN : Hid (0 ≤ (liftG sf a 0 (stepsL (acrossL p q h))).1 ∧ (liftG sf a 0 (stepsL (acrossL p q h))).1 ≤ 20000000) := liftG_in l sf HSFS.out a HG.out HBA.out _ 0 (Int.le_refl _) (by decide)
      have HOK : Hid ((liftG sf a 0 (stepsL (acrossL p q h))).2 = 0 → h ≤ 10000000) := fun he => across_near HBA.out (liftG_ok sf a _ 0 he)
      have HNI : Hid (l = [] → (∀ s ∈ stepsL (acrossL p q H0), farB a s.1 = false ∧ farB a s.2 = false) → liftG sf a 0 (stepsL (acrossL p q h)) = (0, 0)) := fun h1 h2 => by
        have h3 := HNIL.out h1 h2
        rw [h3]
        have hs2 := HSFS.out
        rw [h1] at hs2
        exact liftG_nil sf hs2 a HBA.out _ h2
      clear hka hkp hkq hb hnil
      generalize liftG sf a 0 (stepsL (acrossL p q h)) = re at *
      obtain ⟨r, e⟩ := re
      simp only at HLF HIN HOK
      go_wp2_with fail
      refine region_seqE 12 [false, false, false, false, false, false, false, false, false, false, false, true, true, false, false, false, false, false, true, true, true, true, true, true, true, true, true, true, false, false, false, false, false, false, false, false, false, false, false]
        [(19, [], none), (20, [], none), (21, [], none), (22, [], none), (23, [], none), (24, [21, 22, 23], none), (25, [19, 20, 24], none), (18, [25], none), (26, [18], none), (27, [18], none), (11, [26], none), (12, [27], none)]
        (cr2V ao l.length cap a p q h r e) (by kernel_rfl) (by kernel_rfl) (by kernel_rfl) (by kernel_rfl) (by kernel_rfl) (by decide) (cr2V_mono ao l.length cap a p q h r e) ?_ ?_
      · refine ⟨?_, ?_, ?_, ?_, ?_, ?_, ?_, ?_, ?_, ?_, ?_, ?_, trivial⟩
        · intro f w1 hb _ K hK
          simp only [over, overL, Nat.reduceAdd]
          go_simp
          exact hK _ _ ⟨_, rfl, by simp only [over, overL, Nat.reduceAdd]; rfl, Below.refl _ _⟩
        · intro f w1 hb _ K hK
          have q0 := (KA.out.later hb).c 0 rfl
          have q1 := (KA.out.later hb).c 1 rfl
          have q2 := (KA.out.later hb).c 2 rfl
          have q3 := (KA.out.later hb).c 3 rfl
          have q4 := (KA.out.later hb).c 4 rfl
          have q5 := (KA.out.later hb).c 5 rfl
          simp only [over, overL, Nat.reduceAdd]
          go_simp
          exact hK _ _ ⟨_, rfl, by simp only [over, overL, Nat.reduceAdd]; rfl, Below.refl _ _⟩
        · intro f w1 hb _ K hK
          have q0 := (KP.out.later hb).c 0 rfl
          have q1 := (KP.out.later hb).c 1 rfl
          have q2 := (KP.out.later hb).c 2 rfl
          simp only [over, overL, Nat.reduceAdd]
          go_simp
          exact hK _ _ ⟨_, rfl, by simp only [over, overL, Nat.reduceAdd]; rfl, Below.refl _ _⟩
        · intro f w1 hb _ K hK
          have q0 := (KQ.out.later hb).c 0 rfl
          have q1 := (KQ.out.later hb).c 1 rfl
          have q2 := (KQ.out.later hb).c 2 rfl
          simp only [over, overL, Nat.reduceAdd]
          go_simp
          exact hK _ _ ⟨_, rfl, by simp only [over, overL, Nat.reduceAdd]; rfl, Below.refl _ _⟩
        · intro f w1 hb _ K hK
          simp only [over, overL, Nat.reduceAdd]
          go_simp
          exact hK _ _ ⟨_, rfl, by simp only [over, overL, Nat.reduceAdd]; rfl, Below.refl _ _⟩
        · intro f w1 hb ⟨h21, h22, h23, _⟩ K hK
          replace h21 : f 21 = _ := h21
          replace h22 : f 22 = _ := h22
          replace h23 : f 23 = _ := h23
          simp only [over, overL, Nat.reduceAdd, h21, h22, h23]
          go_simp
          refine Calls.mono (HAC.out w1) ?_
          rintro e w2 ⟨⟨ao2, rfl, hp2⟩, hb2⟩
          exact hK _ _ ⟨_, ⟨_, 3, rfl, hp2⟩, by simp only [over, overL, Nat.reduceAdd, h21, h22, h23]; rfl, hb2⟩
        · intro f w1 hb ⟨h19, h20, h24, _⟩ K hK
          replace h19 : f 19 = _ := h19
          replace h20 : f 20 = _ := h20
          obtain ⟨ao3, cap3, h24, hp3⟩ := h24
          simp only [over, overL, Nat.reduceAdd, h19, h20, h24]
          go_simp
          refine Calls.mono (HLF.out ao3 cap3 w1 (HLL.out _ hb) hp3) ?_
          rintro e w2 ⟨rfl, hb2⟩
          exact hK _ _ ⟨_, rfl, by simp only [over, overL, Nat.reduceAdd, h19, h20, h24]; rfl, hb2⟩
        · intro f w1 hb ⟨h25, _⟩ K hK
          replace h25 : f 25 = _ := h25
          simp only [over, overL, Nat.reduceAdd, h25]
          go_simp
          exact hK _ _ ⟨_, rfl, by simp only [over, overL, Nat.reduceAdd, h25]; rfl, Below.refl _ _⟩
        · intro f w1 hb ⟨h18, _⟩ K hK
          replace h18 : f 18 = _ := h18
          simp only [over, overL, Nat.reduceAdd, h18]
          go_simp
          exact hK _ _ ⟨_, rfl, by simp only [over, overL, Nat.reduceAdd, h18]; rfl, Below.refl _ _⟩
        · intro f w1 hb ⟨h18, _⟩ K hK
          replace h18 : f 18 = _ := h18
          simp only [over, overL, Nat.reduceAdd, h18]
          go_simp
          exact hK _ _ ⟨_, rfl, by simp only [over, overL, Nat.reduceAdd, h18]; rfl, Below.refl _ _⟩
        · intro f w1 hb ⟨h26, _⟩ K hK
          replace h26 : f 26 = _ := h26
          simp only [over, overL, Nat.reduceAdd, h26]
          go_simp
          exact hK _ _ ⟨_, rfl, by simp only [over, overL, Nat.reduceAdd, h26]; rfl, Below.refl _ _⟩
        · intro f w1 hb ⟨h27, _⟩ K hK
          replace h27 : f 27 = _ := h27
          simp only [over, overL, Nat.reduceAdd, h27]
          go_simp
          exact hK _ _ ⟨_, rfl, by simp only [over, overL, Nat.reduceAdd, h27]; rfl, Below.refl _ _⟩
      intro f w1 hb hv
      have h11 : f 11 = _ := hv.2.2.2.2.2.2.2.2.2.2.1
      have h12 : f 12 = _ := hv.2.2.2.2.2.2.2.2.2.2.2.1
      have HB1 : Hid (Below wr.heap.size wr w1) := hb
      have HBW : Hid (Below w.heap.size w w1) := HB.out.trans (hb.mono HB.out.size)
      clear hv hb
      simp only [over_eq, overL, h11, h12, Nat.reduceAdd, List.drop_succ_cons, List.drop_zero]
      by_cases he : e = 0
      · subst he
        have hok := HOK.out rfl
        by_cases hr : r = 0
        · subst hr
          go_wp2
          refine bodyPost_ret (v := .tuple #[.int .i64 h, .int .i64 0]) (by simp [results, Try.results23, go_sem]) rfl ⟨h, 0, rfl, ⟨fun _ => ⟨hh0, hok⟩, fun h1 h2 => ⟨rfl, HNIL.out h1 h2⟩⟩, HBW.out⟩
        · have hrb : (r == 0) = false := by simp [hr]
          have hin := HIN.out
          have hi0 := hin.1
          have hlo : -10000000 ≤ h := by have := HI1.out; omega
          have hi1 := hin.2
          have HRN : Hid (r ≠ 0) := hr
          clear hr hin
          go_wp2
          go_roundw
          case rel =>
            have hrn := HRN.out
            refine ⟨h + r, by go_num, by omega, by omega, fun h1 h2 => ?_, KA.out.later HB1.out, KP.out.later HB1.out, KQ.out.later HB1.out, HBW.out⟩
            have := HNI.out h1 h2
            injection this with h3 h4
            exact absurd h3 hrn
          case measure => have hrn := HRN.out; simp [intOf]; omega
      · have hne : (e != 0) = true := by simp [he]
        have HE : Hid (e ≠ 0) := he
        clear he
        go_wp2
        refine bodyPost_ret (v := .tuple #[.int .i64 h, .int .i64 e]) (by simp [results, Try.results23, go_sem]) rfl ⟨h, e, rfl, ⟨fun h1 => absurd h1 HE.out, fun h1 h2 => ?_⟩, HBW.out⟩
        have := HNI.out h1 h2
        injection this with h3 h4
        exact absurd h4 HE.out
  · have HZ : Hid (p.z = H0) := hz2
    clear hz2
    go_wp2_with fail
    go_loopw [10] (fun i wr => ∃ h : Int, i = .int .i64 h ∧ H0 ≤ h ∧ h ≤ 30000000 ∧ (l = [] → (∀ s ∈ stepsL (acrossL p q H0), farB a s.1 = false ∧ farB a s.2 = false) → h = H0) ∧ Bk w.heap.size (bcl a) wr ∧ Bk (w.heap.size + 1) (pcl p) wr ∧ Bk (w.heap.size + 2) (pcl q) wr ∧ Below w.heap.size w wr) (fun i _ => (10000001 - intOf i).toNat)
    case atStart => exact ⟨H0, by rw [HZ.out], Int.le_refl _, HI0.out, fun _ _ => rfl, KA0.out, KP0.out, KQ0.out, HB0.out⟩
    case round =>
      obtain ⟨h, rfl, hh0, hh1, hnil, hka, hkp, hkq, hb⟩ := hrel
      have KA : Hid (Bk w.heap.size (bcl a) wr) := hka
      have KP : Hid (Bk (w.heap.size + 1) (pcl p) wr) := hkp
      have KQ : Hid (Bk (w.heap.size + 2) (pcl q) wr) := hkq
      have HB : Hid (Below w.heap.size w wr) := hb
      have HNIL : Hid (l = [] → (∀ s ∈ stepsL (acrossL p q H0), farB a s.1 = false ∧ farB a s.2 = false) → h = H0) := hnil
      have HLL : Hid (∀ W, Below wr.heap.size wr W → Bxs W ao l) := fun W hW => (HL.out.next HB.out).next hW
      have HAC : Hid (∀ W, Calls Try.prog 24 #[pv p, pv q, .int .i64 h] W fun e w' => (∃ ao, e = .returned (.slice ao 3 3) ∧ Pns w' ao (acrossL p q h)) ∧ Below W.heap.size W w') := fun W => across_any p q h W
      have HLF : Hid (∀ ao3 cap3 W, Bxs W ao l → Pns W ao3 (acrossL p q h) → Calls Try.prog 51 #[.slice ao l.length cap, bv a, .slice ao3 (acrossL p q h).length cap3] W fun e w' => e = .returned (.tuple #[.int .i64 (liftG sf a 0 (stepsL (acrossL p q h))).1, .int .i64 (liftG sf a 0 (stepsL (acrossL p q h))).2]) ∧ Below W.heap.size W w') :=
        fun ao3 cap3 W h1 h2 => lift_any ao ao3 cap cap3 l sf HSFS.out a (acrossL p q h) W h1 hl HG.out HBA.out h2 (by simp [acrossL])
      have HIN : Hid (0 ≤ (liftG sf a 0 (stepsL (acrossL p q h))).1 ∧ (liftG sf a 0 (stepsL (acrossL p q h))).1 ≤ 20000000) := liftG_in l sf HSFS.out a HG.out HBA.out _ 0 (Int.le_refl _) (by decide)
      have HOK : Hid ((liftG sf a 0 (stepsL (acrossL p q h))).2 = 0 → h ≤ 10000000) := fun he => across_near HBA.out (liftG_ok sf a _ 0 he)
      have HNI : Hid (l = [] → (∀ s ∈ stepsL (acrossL p q H0), farB a s.1 = false ∧ farB a s.2 = false) → liftG sf a 0 (stepsL (acrossL p q h)) = (0, 0)) := fun h1 h2 => by
        have h3 := HNIL.out h1 h2
        rw [h3]
        have hs2 := HSFS.out
        rw [h1] at hs2
        exact liftG_nil sf hs2 a HBA.out _ h2
      clear hka hkp hkq hb hnil
      generalize liftG sf a 0 (stepsL (acrossL p q h)) = re at *
      obtain ⟨r, e⟩ := re
      simp only at HLF HIN HOK
      go_wp2_with fail
      refine region_seqE 12 [false, false, false, false, false, false, false, false, false, false, false, true, true, false, false, false, false, false, true, true, true, true, true, true, true, true, true, true, false, false, false, false, false, false, false, false, false, false, false]
        [(19, [], none), (20, [], none), (21, [], none), (22, [], none), (23, [], none), (24, [21, 22, 23], none), (25, [19, 20, 24], none), (18, [25], none), (26, [18], none), (27, [18], none), (11, [26], none), (12, [27], none)]
        (cr2V ao l.length cap a p q h r e) (by kernel_rfl) (by kernel_rfl) (by kernel_rfl) (by kernel_rfl) (by kernel_rfl) (by decide) (cr2V_mono ao l.length cap a p q h r e) ?_ ?_
      · refine ⟨?_, ?_, ?_, ?_, ?_, ?_, ?_, ?_, ?_, ?_, ?_, ?_, trivial⟩
        · intro f w1 hb _ K hK
          simp only [over, overL, Nat.reduceAdd]
          go_simp
          exact hK _ _ ⟨_, rfl, by simp only [over, overL, Nat.reduceAdd]; rfl, Below.refl _ _⟩
        · intro f w1 hb _ K hK
          have q0 := (KA.out.later hb).c 0 rfl
          have q1 := (KA.out.later hb).c 1 rfl
          have q2 := (KA.out.later hb).c 2 rfl
          have q3 := (KA.out.later hb).c 3 rfl
          have q4 := (KA.out.later hb).c 4 rfl
          have q5 := (KA.out.later hb).c 5 rfl
          simp only [over, overL, Nat.reduceAdd]
          go_simp
          exact hK _ _ ⟨_, rfl, by simp only [over, overL, Nat.reduceAdd]; rfl, Below.refl _ _⟩
        · intro f w1 hb _ K hK
          have q0 := (KP.out.later hb).c 0 rfl
          have q1 := (KP.out.later hb).c 1 rfl
          have q2 := (KP.out.later hb).c 2 rfl
          simp only [over, overL, Nat.reduceAdd]
          go_simp
          exact hK _ _ ⟨_, rfl, by simp only [over, overL, Nat.reduceAdd]; rfl, Below.refl _ _⟩
        · intro f w1 hb _ K hK
          have q0 := (KQ.out.later hb).c 0 rfl
          have q1 := (KQ.out.later hb).c 1 rfl
          have q2 := (KQ.out.later hb).c 2 rfl
          simp only [over, overL, Nat.reduceAdd]
          go_simp
          exact hK _ _ ⟨_, rfl, by simp only [over, overL, Nat.reduceAdd]; rfl, Below.refl _ _⟩
        · intro f w1 hb _ K hK
          simp only [over, overL, Nat.reduceAdd]
          go_simp
          exact hK _ _ ⟨_, rfl, by simp only [over, overL, Nat.reduceAdd]; rfl, Below.refl _ _⟩
        · intro f w1 hb ⟨h21, h22, h23, _⟩ K hK
          replace h21 : f 21 = _ := h21
          replace h22 : f 22 = _ := h22
          replace h23 : f 23 = _ := h23
          simp only [over, overL, Nat.reduceAdd, h21, h22, h23]
          go_simp
          refine Calls.mono (HAC.out w1) ?_
          rintro e w2 ⟨⟨ao2, rfl, hp2⟩, hb2⟩
          exact hK _ _ ⟨_, ⟨_, 3, rfl, hp2⟩, by simp only [over, overL, Nat.reduceAdd, h21, h22, h23]; rfl, hb2⟩
        · intro f w1 hb ⟨h19, h20, h24, _⟩ K hK
          replace h19 : f 19 = _ := h19
          replace h20 : f 20 = _ := h20
          obtain ⟨ao3, cap3, h24, hp3⟩ := h24
          simp only [over, overL, Nat.reduceAdd, h19, h20, h24]
          go_simp
          refine Calls.mono (HLF.out ao3 cap3 w1 (HLL.out _ hb) hp3) ?_
          rintro e w2 ⟨rfl, hb2⟩
          exact hK _ _ ⟨_, rfl, by simp only [over, overL, Nat.reduceAdd, h19, h20, h24]; rfl, hb2⟩
        · intro f w1 hb ⟨h25, _⟩ K hK
          replace h25 : f 25 = _ := h25
          simp only [over, overL, Nat.reduceAdd, h25]
          go_simp
          exact hK _ _ ⟨_, rfl, by simp only [over, overL, Nat.reduceAdd, h25]; rfl, Below.refl _ _⟩
        · intro f w1 hb ⟨h18, _⟩ K hK
          replace h18 : f 18 = _ := h18
          simp only [over, overL, Nat.reduceAdd, h18]
          go_simp
          exact hK _ _ ⟨_, rfl, by simp only [over, overL, Nat.reduceAdd, h18]; rfl, Below.refl _ _⟩
        · intro f w1 hb ⟨h18, _⟩ K hK
          replace h18 : f 18 = _ := h18
          simp only [over, overL, Nat.reduceAdd, h18]
          go_simp
          exact hK _ _ ⟨_, rfl, by simp only [over, overL, Nat.reduceAdd, h18]; rfl, Below.refl _ _⟩
        · intro f w1 hb ⟨h26, _⟩ K hK
          replace h26 : f 26 = _ := h26
          simp only [over, overL, Nat.reduceAdd, h26]
          go_simp
          exact hK _ _ ⟨_, rfl, by simp only [over, overL, Nat.reduceAdd, h26]; rfl, Below.refl _ _⟩
        · intro f w1 hb ⟨h27, _⟩ K hK
          replace h27 : f 27 = _ := h27
          simp only [over, overL, Nat.reduceAdd, h27]
          go_simp
          exact hK _ _ ⟨_, rfl, by simp only [over, overL, Nat.reduceAdd, h27]; rfl, Below.refl _ _⟩
      intro f w1 hb hv
      have h11 : f 11 = _ := hv.2.2.2.2.2.2.2.2.2.2.1
      have h12 : f 12 = _ := hv.2.2.2.2.2.2.2.2.2.2.2.1
      have HB1 : Hid (Below wr.heap.size wr w1) := hb
      have HBW : Hid (Below w.heap.size w w1) := HB.out.trans (hb.mono HB.out.size)
      clear hv hb
      simp only [over_eq, overL, h11, h12, Nat.reduceAdd, List.drop_succ_cons, List.drop_zero]
      by_cases he : e = 0
      · subst he
        have hok := HOK.out rfl
        by_cases hr : r = 0
        · subst hr
          go_wp2
          refine bodyPost_ret (v := .tuple #[.int .i64 h, .int .i64 0]) (by simp [results, Try.results23, go_sem]) rfl ⟨h, 0, rfl, ⟨fun _ => ⟨hh0, hok⟩, fun h1 h2 => ⟨rfl, HNIL.out h1 h2⟩⟩, HBW.out⟩
        · have hrb : (r == 0) = false := by simp [hr]
          have hin := HIN.out
          have hi0 := hin.1
          have hlo : -10000000 ≤ h := by have := HI1.out; omega
          have hi1 := hin.2
          have HRN : Hid (r ≠ 0) := hr
          clear hr hin
          go_wp2
          go_roundw
          case rel =>
            have hrn := HRN.out
            refine ⟨h + r, by go_num, by omega, by omega, fun h1 h2 => ?_, KA.out.later HB1.out, KP.out.later HB1.out, KQ.out.later HB1.out, HBW.out⟩
            have := HNI.out h1 h2
            injection this with h3 h4
            exact absurd h3 hrn
          case measure => have hrn := HRN.out; simp [intOf]; omega
      · have hne : (e != 0) = true := by simp [he]
        have HE : Hid (e ≠ 0) := he
        clear he
        go_wp2
        refine bodyPost_ret (v := .tuple #[.int .i64 h, .int .i64 e]) (by simp [results, Try.results23, go_sem]) rfl ⟨h, e, rfl, ⟨fun h1 => absurd h1 HE.out, fun h1 h2 => ?_⟩, HBW.out⟩
        have := HNI.out h1 h2
        injection this with h3 h4
        exact absurd h4 HE.out
theorem crossing_any (ao : Option Addr) (cap : Nat) (l : List Bx) (a : Bx) (p q : Pt) (w : World) (hL : Bxs w ao l) (hl : l.length ≤ 40) (hg : badL l = 0) (ha : bad1 a = 0) (hp : nearP p = true) (hq : nearP q = true) :
    Calls Try.prog 23 #[.slice ao l.length cap, bv a, pv p, pv q] w fun e w' => ∃ h e1, e = .returned (.tuple #[.int .i64 h, .int .i64 e1]) ∧ CrossP l a p q (max p.z q.z) h e1 ∧ Below w.heap.size w w' :=
  crossing_w ao cap l a p q (max p.z q.z) w hL hl hg ha hp hq (by omega)
end Go.Proofs.Ytgelbndbkmedlaa.S
