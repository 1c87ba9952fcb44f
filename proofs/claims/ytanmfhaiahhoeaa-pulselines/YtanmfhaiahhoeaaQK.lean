/- Pulses that are refused; a walk along pulses, each place told. -/
import Derived.Test.YtanmfhaiahhoeaaQJ
namespace Go.Proofs.Ytanmfhaiahhoeaa
open Go.RowKit

/-- Numbers that can be read. -/
def RdI (w : World) (ao : Option Addr) (l : List Int) : Prop := l = [] ∨ ∃ b off, ao = some ⟨b, off, none⟩ ∧ b < w.heap.size ∧ ∀ k (h : k < l.length), w.cell? ⟨b, off + k, none⟩ = some (.int .i64 (l[k]'h))
theorem RdI.later {w w1 : World} {ao : Option Addr} {l : List Int} (h : RdI w ao l) (hb : Below w.heap.size w w1) : RdI w1 ao l := by
  rcases h with h | ⟨b, off, e, hlt, hc⟩
  · exact .inl h
  · exact .inr ⟨b, off, e, Nat.lt_of_lt_of_le hlt hb.size, fun k hk => cell_later hb (hc k hk)⟩
theorem RdI.at {w : World} {ao : Option Addr} {l : List Int} (h : RdI w ao l) {k : Nat} (hk : k < l.length) : ∃ b off, ao = some ⟨b, off, none⟩ ∧ b < w.heap.size ∧ w.cell? ⟨b, off + k, none⟩ = some (.int .i64 (l[k]'hk)) := by
  rcases h with rfl | ⟨b, off, e, hlt, hc⟩
  · simp at hk
  · exact ⟨b, off, e, hlt, hc k hk⟩
theorem RdI.of_ints {w : World} {xs : List Int} {G : Nat} (h : Ints xs G w) : RdI w (some ⟨G, 0, none⟩) xs := .inr ⟨G, 0, rfl, h.1, fun k hk => by rw [Nat.zero_add]; exact h.2 k hk⟩
/-- What is wrong with pulses. -/
def refuP (l : List Int) : Int := if 20000 < l.length then 7 else if l.all isP then 0 else 1
theorem refuP_long {l : List Int} (h : 20000 < l.length) : refuP l = 7 := if_pos h
theorem refuP_bad {l : List Int} (h : ¬ 20000 < l.length) {k : Nat} (hk : k < l.length) (hb : isP (l[k]'hk) = false) : refuP l = 1 := by
  unfold refuP
  rw [if_neg h, if_neg]
  intro e
  have := List.all_eq_true.1 e _ (List.getElem_mem hk)
  rw [hb] at this
  cases this
theorem refuP_ok {l : List Int} (h : ¬ 20000 < l.length) (ha : ∀ b ∈ l, isP b = true) : refuP l = 0 := by
  unfold refuP
  rw [if_neg h, if_pos (List.all_eq_true.2 ha)]
theorem take_next {l : List Int} {k : Nat} {q : Int → Prop} (h : k < l.length) (ha : ∀ b ∈ l.take k, q b) (hb : q (l[k]'h)) : ∀ b ∈ l.take (k + 1), q b := by
  intro b hm
  rw [List.take_succ_eq_append_getElem h] at hm
  rcases List.mem_append.1 hm with hm | hm
  · exact ha b hm
  · rw [List.mem_singleton.1 hm]; exact hb
set_option maxHeartbeats 6400000 in
set_option maxRecDepth 100000 in
theorem refusal_any (ao : Option Addr) (cap : Nat) (l : List Int) (w : World) (hR : RdI w ao l) (hl : l.length ≤ 9223372036854775807) :
    Calls Try.prog 26 #[.slice ao l.length cap] w fun e w' => e = .returned (.int .i64 (refuP l)) ∧ w' = w := by
  have HR : Hid (RdI w ao l) := hR
  clear hR
  have HI : Hid (∀ p W, Calls Try.prog 41 #[.int .i64 p] W fun e w' => e = .returned (.bool (isP p)) ∧ w' = W) := isPulse_any
  by_cases hlong : 20000 < l.length
  · have HE : Hid (refuP l = 7) := refuP_long hlong
    have h2 : (20000 : Int) < l.length := by omega
    go_enter Try.func26, Try.ntmps26
    go_wp2
    go_ret
    exact ⟨ret_int HE.out.symm, rfl⟩
  · have h2 : (l.length : Int) ≤ 20000 := by omega
    have HBad : Hid (∀ k (hk : k < l.length), isP (l[k]'hk) = false → refuP l = 1) := fun k hk hb => refuP_bad hlong hk hb
    have HOk : Hid ((∀ b ∈ l, isP b = true) → refuP l = 0) := refuP_ok hlong
    go_enter Try.func26, Try.ntmps26
    go_wp2
    go_loopw [10] (fun i wr => ∃ k : Nat, k ≤ l.length ∧ i = .int .i64 k ∧ (∀ b ∈ l.take k, isP b = true) ∧ wr = w) (fun i _ => l.length - (intOf i).toNat)
    case atStart => exact ⟨0, Nat.zero_le _, rfl, (fun b hb => by simp at hb), rfl⟩
    case round =>
      obtain ⟨k, hk, rfl, hok, hw⟩ := hrel
      subst hw
      have HO : Hid (∀ b ∈ l.take k, isP b = true) := hok
      clear hok
      by_cases hlt : k < l.length
      · obtain ⟨b, off, rfl, _, hc⟩ := HR.out.at hlt
        have HHit : Hid (isP (l[k]'hlt) = false → refuP l = 1) := HBad.out k hlt
        have HMiss : Hid (isP (l[k]'hlt) = true → ∀ b ∈ l.take (k + 1), isP b = true) := take_next hlt HO.out
        generalize l[k]'hlt = a at *
        go_wp2_with fail
        refine (HI.out a _).mono ?_
        rintro e w' ⟨rfl, rfl⟩
        cases hq : isP a with
        | true =>
          go_wp2
          go_roundw
          case rel => exact ⟨k + 1, by omega, by go_num, HMiss.out hq, trivial⟩
          case measure => simp [intOf]; omega
        | false =>
          go_wp2
          go_ret
          exact ⟨ret_int (HHit.out hq).symm, rfl⟩
      · have HE : Hid (refuP l = 0) := HOk.out (fun b hb => HO.out b (by rw [List.take_of_length_le (by omega)]; exact hb))
        go_wp2
        go_ret
        exact ⟨ret_int HE.out.symm, rfl⟩
theorem dg_in (p : Int) (i : Nat) : -2 ≤ dg p i ∧ dg p i ≤ 1 := by
  unfold dg
  rcases bit_01 (p / 2 ^ i) with e | e <;> rcases bit_01 (p / 2 ^ (i + 3)) with e2 | e2 <;> rw [e, e2] <;> decide
/-- Steps added up. -/
def sumD (l : List Int) (i : Nat) : Int := (l.map fun p => dg p i).sum
theorem sumD_nil (i : Nat) : sumD [] i = 0 := rfl
theorem sumD_next {l : List Int} {k : Nat} (h : k < l.length) (i : Nat) : sumD (l.take (k + 1)) i = sumD (l.take k) i + dg (l[k]'h) i := by
  unfold sumD
  rw [List.take_succ_eq_append_getElem h, List.map_append, List.sum_append]
  simp
theorem sumD_in (i : Nat) : ∀ l : List Int, -2 * (l.length : Int) ≤ sumD l i ∧ sumD l i ≤ l.length := by
  intro l
  induction l with
  | nil => simp [sumD]
  | cons a l ih =>
    have := dg_in a i
    have e : sumD (a :: l) i = dg a i + sumD l i := by simp [sumD]
    rw [e, List.length_cons]
    omega
def plc (l : List Int) (k : Nat) : V3 := ⟨sumD (l.take k) 0, sumD (l.take k) 1, sumD (l.take k) 2⟩
set_option maxHeartbeats 6400000 in
set_option maxRecDepth 100000 in
theorem walk_any (ao : Option Addr) (cap : Nat) (l : List Int) (g : Nat) (caps : Array Value) (w : World) (hl : l.length ≤ 20000) (eg : ∀ args w, (callFunc g args).run Try.prog w = .ok (.enter g args) w)
    (J : Nat → World → Prop) (hJ : ∀ k A B, J k A → Kpt (fun b => w.heap.size ≤ b) A B → J k B) (hR : ∀ k W, J k W → RdI W ao l)
    (hC : ∀ k, k < l.length → ∀ W, J k W → w.heap.size ≤ W.heap.size → Calls Try.prog g (#[(plc l (k + 1)).v] ++ caps) W fun e W' => (∃ v, e = .returned v) ∧ J (k + 1) W' ∧ Kpt (fun b => b < w.heap.size) W W') (h0 : J 0 w) :
    Calls Try.prog 27 #[.slice ao l.length cap, .func (.func g) #[] caps] w fun e w' => (∃ v, e = .returned v) ∧ J l.length w' := by
  have HS : Hid (∀ p W, Calls Try.prog 42 #[.int .i64 p] W fun e w' => e = .returned (v3 (dg p 0) (dg p 1) (dg p 2)) ∧ Below W.heap.size W w') := stepsOf_any
  have HC : Hid (∀ k, k < l.length → ∀ W, J k W → w.heap.size ≤ W.heap.size → Calls Try.prog g (#[(plc l (k + 1)).v] ++ caps) W fun e W' => (∃ v, e = .returned v) ∧ J (k + 1) W' ∧ Kpt (fun b => b < w.heap.size) W W') := hC
  have HJ : Hid (∀ k A B, J k A → Kpt (fun b => w.heap.size ≤ b) A B → J k B) := hJ
  have HR : Hid (∀ k W, J k W → RdI W ao l) := hR
  have J1 : Hid (J 0 (w.alloc (o3 0 0 0 49))) := hJ _ _ _ h0 (Kpt.of_below ((Below.refl _ _).alloc (Nat.le_refl _) _))
  have KA : Hid (Bk w.heap.size [.int .i64 0, .int .i64 0, .int .i64 0] (w.alloc (o3 0 0 0 49))) := Bk.new w [.int .i64 0, .int .i64 0, .int .i64 0] 49 _ rfl
  have HZ : Hid (w.heap.size ≤ (w.alloc (o3 0 0 0 49)).heap.size) := by show _ ≤ _; simp
  clear hC hJ hR h0
  go_enter Try.func27, Try.ntmps27
  go_wp2
  go_loopw [11] (fun i wr => ∃ k : Nat, k ≤ l.length ∧ i = .int .i64 k ∧ J k wr ∧ Bk w.heap.size [.int .i64 (plc l k).x, .int .i64 (plc l k).y, .int .i64 (plc l k).z] wr ∧ w.heap.size ≤ wr.heap.size) (fun i _ => l.length - (intOf i).toNat)
  case atStart => exact ⟨0, Nat.zero_le _, rfl, J1.out, KA.out, HZ.out⟩
  case round =>
    obtain ⟨k, hk, rfl, hj, hx, hsz⟩ := hrel
    have HJk : Hid (J k wr) := hj
    have HX : Hid (Bk w.heap.size [.int .i64 (plc l k).x, .int .i64 (plc l k).y, .int .i64 (plc l k).z] wr) := hx
    have HSZ : Hid (w.heap.size ≤ wr.heap.size) := hsz
    clear hj hx hsz
    by_cases hlt : k < l.length
    · obtain ⟨b, off, rfl, _, hc⟩ := (HR.out k wr HJk.out).at hlt
      obtain ⟨a, ha⟩ : ∃ a, a = l[k]'hlt := ⟨_, rfl⟩
      rw [← ha] at hc
      have e0 := sumD_next hlt 0
      have e1 := sumD_next hlt 1
      have e2 := sumD_next hlt 2
      rw [← ha] at e0 e1 e2
      obtain ⟨x, hx⟩ : ∃ x, x = sumD (l.take k) 0 := ⟨_, rfl⟩
      obtain ⟨y, hy⟩ : ∃ y, y = sumD (l.take k) 1 := ⟨_, rfl⟩
      obtain ⟨z, hz⟩ : ∃ z, z = sumD (l.take k) 2 := ⟨_, rfl⟩
      have HX2 : Hid (Bk w.heap.size [.int .i64 x, .int .i64 y, .int .i64 z] wr) := by
        show Bk _ _ _
        rw [hx, hy, hz]
        exact HX.out
      have HS2 : Hid (∀ W, Calls Try.prog 42 #[.int .i64 a] W fun e w' => e = .returned (v3 (dg a 0) (dg a 1) (dg a 2)) ∧ Below W.heap.size W w') := HS.out a
      have hlk : (l.take k).length ≤ 20000 := by rw [List.length_take]; omega
      have hx2 := sumD_in 0 (l.take k)
      have hy2 := sumD_in 1 (l.take k)
      have hz2 := sumD_in 2 (l.take k)
      have d0 := dg_in a 0
      have d1 := dg_in a 1
      have d2 := dg_in a 2
      rw [← hx] at hx2 e0
      rw [← hy] at hy2 e1
      rw [← hz] at hz2 e2
      generalize dg a 0 = s at *
      generalize dg a 1 = t at *
      generalize dg a 2 = u at *
      have HP : Hid (plc l (k + 1) = ⟨x + s, y + t, z + u⟩) := by show _ = _; unfold plc; rw [e0, e1, e2]
      have bx : -40000 ≤ x ∧ x ≤ 40000 := by omega
      have by' : -40000 ≤ y ∧ y ≤ 40000 := by omega
      have bz : -40000 ≤ z ∧ z ≤ 40000 := by omega
      obtain ⟨bx1, bx2⟩ := bx
      obtain ⟨by1, by2⟩ := by'
      obtain ⟨bz1, bz2⟩ := bz
      obtain ⟨ds1, ds2⟩ := d0
      obtain ⟨dt1, dt2⟩ := d1
      obtain ⟨du1, du2⟩ := d2
      clear hx hy hz e0 e1 e2 hlk hx2 hy2 hz2 ha
      go_wp2_with fail
      refine (HS2.out _).mono ?_
      rintro e w2 ⟨rfl, hb2⟩
      have HX3 : Hid (Bk w.heap.size [.int .i64 x, .int .i64 y, .int .i64 z] w2) := HX2.out.later hb2
      have K2 : Hid (Kpt (fun b => w.heap.size ≤ b) wr w2) := Kpt.of_below hb2
      clear hb2 hc
      have i0 := ix0 s t u
      have i1 := ix1 s t u
      have i2 := ix2 s t u
      have c0 := HX3.out.c 0 rfl
      have c1 := HX3.out.c 1 rfl
      have c2 := HX3.out.c 2 rfl
      have f0 := HX3.out.f 0 rfl
      have f1 := HX3.out.f 1 rfl
      have f2 := HX3.out.f 2 rfl
      go_wp2_with fail
      refine wp_loop_rounds 4 ?_
      rw [rounds_succ]
      go_wp2
      rw [rounds_succ]
      go_wp2
      rw [rounds_succ]
      go_wp2
      rw [rounds_succ]
      obtain ⟨w3, hw⟩ : ∃ ww : World, ww = ((w2.setCell ⟨w.heap.size, 0, none⟩ (.int .i64 (x + s))).setCell ⟨w.heap.size, 1, none⟩ (.int .i64 (y + t))).setCell ⟨w.heap.size, 2, none⟩ (.int .i64 (z + u)) := ⟨_, rfl⟩
      rw [← hw]
      have HX4 : Hid (Bk w.heap.size [.int .i64 (x + s), .int .i64 (y + t), .int .i64 (z + u)] w3) := by show Bk _ _ _; rw [hw]; exact ((HX3.out.put 0 _).put 1 _).put 2 _
      have K3 : Hid (Kpt (fun b => w.heap.size ≤ b) wr w3) := by show Kpt _ _ _; rw [hw]; exact ((K2.out.trans (Kpt.setCell _ _ _ _ (Nat.le_refl _))).trans (Kpt.setCell _ _ _ _ (Nat.le_refl _))).trans (Kpt.setCell _ _ _ _ (Nat.le_refl _))
      clear hw c0 c1 c2 f0 f1 f2 i0 i1 i2
      have HZ3 : Hid (w.heap.size ≤ w3.heap.size) := Nat.le_trans HSZ.out K3.out.size
      have hcall := HC.out k hlt w3 (HJ.out _ _ _ HJk.out K3.out) HZ3.out
      rw [HP.out] at hcall
      have HXn : Hid (Bk w.heap.size [.int .i64 (plc l (k + 1)).x, .int .i64 (plc l (k + 1)).y, .int .i64 (plc l (k + 1)).z] w3) := by show Bk _ _ _; rw [HP.out]; exact HX4.out
      have c0 := HX4.out.c 0 rfl
      have c1 := HX4.out.c 1 rfl
      have c2 := HX4.out.c 2 rfl
      go_wp2_with (go_at_fn g; refine hcall.mono ?_; rintro e w10 ⟨⟨v, rfl⟩, hj10, hk10⟩; have HJ10 : Hid (J (k + 1) w10) := hj10; have HX10 : Hid (Bk w.heap.size [.int .i64 (plc l (k + 1)).x, .int .i64 (plc l (k + 1)).y, .int .i64 (plc l (k + 1)).z] w10) := bk_kpt HXn.out hk10 (by omega); have HZ10 : Hid (w.heap.size ≤ w10.heap.size) := Nat.le_trans HZ3.out hk10.size; clear hj10 hk10)
      go_roundw
      case rel => exact ⟨k + 1, by omega, by go_num, HJ10.out, HX10.out, HZ10.out⟩
      case measure => simp [intOf]; omega
    · have e : k = l.length := by omega
      have HJp : Hid (J l.length wr) := e ▸ HJk.out
      clear e
      go_wp2
      refine bodyPost_end (v := .tuple #[]) (by simp [results, Try.results27, go_sem]) rfl ⟨⟨_, rfl⟩, HJp.out⟩
end Go.Proofs.Ytanmfhaiahhoeaa
