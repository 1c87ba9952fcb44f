/- A move in parts, each of them told. -/
import Derived.Test.YtanmfhaiahhoeaaQE
namespace Go.Proofs.Ytanmfhaiahhoeaa
open Go.RowKit

set_option maxHeartbeats 6400000 in
set_option maxRecDepth 100000 in
theorem parted_any (x y z : Int) (p g : Nat) (caps : Array Value) (w : World) (hm : mv x y z = true) (hp2 : p ≤ 20000) (eg : ∀ args w, (callFunc g args).run Try.prog w = .ok (.enter g args) w)
    (J : Nat → World → Prop) (hJ : ∀ k A B, J k A → Kpt (fun b => w.heap.size ≤ b) A B → J k B)
    (hC : ∀ k, k < p → ∀ W, J k W → w.heap.size ≤ W.heap.size → Calls Try.prog g (#[v3 (stp x p k) (stp y p k) (stp z p k)] ++ caps) W fun e W' => (∃ v, e = .returned v) ∧ J (k + 1) W' ∧ Kpt (fun b => b < w.heap.size) W W') (h0 : J 0 w) :
    Calls Try.prog 23 #[v3 x y z, .int .i64 (p : Nat), .func (.func g) #[] caps] w fun e w' => (∃ v, e = .returned v) ∧ J p w' := by
  have HA : Hid (∀ W, Calls Try.prog 39 #[v3 x y z, .int .i64 (p : Nat)] W fun e w' => e = .returned (a6 x (p : Nat) y (p : Nat) z (p : Nat)) ∧ Below W.heap.size W w') := fun W => axesOf_any x y z (p : Nat) W
  have HM : Hid ((-20000 ≤ x ∧ x ≤ 20000) ∧ (-20000 ≤ y ∧ y ≤ 20000) ∧ (-20000 ≤ z ∧ z ≤ 20000)) := mv_iff.1 hm
  have HC : Hid (∀ k, k < p → ∀ W, J k W → w.heap.size ≤ W.heap.size → Calls Try.prog g (#[v3 (stp x p k) (stp y p k) (stp z p k)] ++ caps) W fun e W' => (∃ v, e = .returned v) ∧ J (k + 1) W' ∧ Kpt (fun b => b < w.heap.size) W W') := hC
  have HJ : Hid (∀ k A B, J k A → Kpt (fun b => w.heap.size ≤ b) A B → J k B) := hJ
  have H0 : Hid (J 0 (w.alloc (o3 x y z 23))) := hJ _ _ _ h0 (Kpt.of_below ((Below.refl _ _).alloc (Nat.le_refl _) _))
  clear hm hC hJ h0
  go_enter Try.func23, Try.ntmps23
  go_wp2_with fail
  refine (HA.out _).mono ?_
  rintro e w1 ⟨rfl, hb1⟩
  have hs1 : w.heap.size + 1 ≤ w1.heap.size := by have := hb1.size; simpa using this
  have J1 : Hid (J 0 w1) := HJ.out _ _ _ H0.out (Kpt.of_below hb1)
  clear hb1
  obtain ⟨ax, hax⟩ : ∃ ax, ax = w1.heap.size := ⟨_, rfl⟩
  go_wp2_with fail
  obtain ⟨w2, hw2⟩ : ∃ w2, w2 = w1.alloc (.cells #[.int .i64 x, .int .i64 (p : Nat), .int .i64 y, .int .i64 (p : Nat), .int .i64 z, .int .i64 (p : Nat)] 60) := ⟨_, rfl⟩
  rw [← hw2]
  have hb2 : Below w1.heap.size w1 w2 := by rw [hw2]; exact (Below.refl _ _).alloc (Nat.le_refl _) _
  have KX : Hid (Bk ax (axs x y z p 0) w2) := by
    show Bk _ _ _
    rw [hw2, hax]
    unfold axs
    rw [rm_zero', rm_zero', rm_zero']
    exact Bk.new w1 [.int .i64 x, .int .i64 (p : Nat), .int .i64 y, .int .i64 (p : Nat), .int .i64 z, .int .i64 (p : Nat)] 60 _ rfl
  have J2 : Hid (J 0 w2) := HJ.out _ _ _ J1.out (Kpt.of_below hb2)
  have HS2 : Hid (w.heap.size ≤ w2.heap.size) := by show _ ≤ _; have := hb2.size; omega
  have hwa : w.heap.size < ax := by omega
  simp only [← hax]
  clear hw2 hb2 hax hs1
  go_loopw [13] (fun i wr => ∃ k : Nat, k ≤ p ∧ i = .int .i64 k ∧ J k wr ∧ Bk ax (axs x y z p k) wr ∧ w.heap.size ≤ wr.heap.size) (fun i _ => p - (intOf i).toNat)
  case atStart => exact ⟨0, Nat.zero_le _, rfl, J2.out, KX.out, HS2.out⟩
  case round =>
    obtain ⟨k, hk, rfl, hj, hx, hsz⟩ := hrel
    have HJk : Hid (J k wr) := hj
    have HX : Hid (Bk ax (axs x y z p k) wr) := hx
    have HSZ : Hid (w.heap.size ≤ wr.heap.size) := hsz
    clear hj hx hsz
    by_cases hlt : k < p
    · have HN : Hid (∀ (o : Nat) (n : Int) (cs : List Value) (W : World), Bk ax cs W → cs[o]? = some (.int .i64 n) → cs[o + 1]? = some (.int .i64 (rm n.natAbs p k : Nat)) → -20000 ≤ n → n ≤ 20000 → Calls Try.prog 40 #[.pointer (some ⟨ax, o, none⟩), .int .i64 (p : Nat)] W fun e w' => e = .returned (.int .i64 (stp n p k)) ∧ Bk ax (cs.set (o + 1) (.int .i64 (rm n.natAbs p (k + 1) : Nat))) w' ∧ Kpt (fun b => b = ax) W w') := fun o n cs W h1 h2 h3 h4 h5 => by
        have h := next_any ax o p (rm n.natAbs p k) n cs W h1 h2 h3 h4 h5 (by omega) hp2 (rm_lt (by omega))
        rw [← rm_next] at h
        exact h
      have hwr : ax < wr.heap.size := HX.out.1
      obtain ⟨S, hS⟩ : ∃ S, S = wr.heap.size := ⟨_, rfl⟩
      go_wp2_with fail
      obtain ⟨w3, hw3⟩ : ∃ x, x = wr.alloc (.cells #[.int .i64 0, .int .i64 0, .int .i64 0] 49) := ⟨_, rfl⟩
      rw [← hw3]
      have hb3 : Below wr.heap.size wr w3 := by rw [hw3]; exact (Below.refl _ _).alloc (Nat.le_refl _) _
      have HX3 : Hid (Bk ax (axs x y z p k) w3) := HX.out.later hb3
      have HS3 : Hid (Bk S [.int .i64 0, .int .i64 0, .int .i64 0] w3) := by show Bk _ _ _; rw [hw3, hS]; exact Bk.new wr [.int .i64 0, .int .i64 0, .int .i64 0] 49 _ rfl
      have K3 : Hid (Kpt (fun b => w.heap.size ≤ b) wr w3) := Kpt.of_below hb3
      have hwS : w.heap.size ≤ S := by have := HSZ.out; omega
      have hne : S ≠ ax := by omega
      simp only [← hS]
      clear hw3 hb3 hS hwr
      refine wp_loop_rounds 4 ?_
      rw [rounds_succ]
      go_wp2_with fail
      refine (HN.out 0 x _ w3 HX3.out rfl rfl HM.out.1.1 HM.out.1.2).mono ?_
      rintro e w4 ⟨rfl, hx, hk2⟩
      have HXw4 : Hid (Bk ax ((axs x y z p k).set (0 + 1) (.int .i64 (rm x.natAbs p (k + 1) : Nat))) w4) := hx
      have HSw4 : Hid (Bk S [.int .i64 0, .int .i64 0, .int .i64 0] w4) := bk_kpt HS3.out hk2 hne
      have Kw4 : Hid (Kpt (fun b => w.heap.size ≤ b) wr w4) := K3.out.trans (hk2.mono fun b e => by omega)
      clear hx hk2
      have c0 := HSw4.out.c 0 rfl
      have f0 := HSw4.out.f 0 rfl
      go_wp2_with fail
      clear c0 f0
      obtain ⟨w5, hw⟩ : ∃ ww : World, ww = w4.setCell ⟨S, 0, none⟩ (.int .i64 (stp x p k)) := ⟨_, rfl⟩
      rw [← hw]
      have HXw5 : Hid (Bk ax ((axs x y z p k).set (0 + 1) (.int .i64 (rm x.natAbs p (k + 1) : Nat))) w5) := by show Bk _ _ _; rw [hw]; exact HXw4.out.other (Ne.symm hne) 0 _
      have HSw5 : Hid (Bk S [.int .i64 (stp x p k), .int .i64 0, .int .i64 0] w5) := by show Bk _ _ _; rw [hw]; exact HSw4.out.put 0 _
      have Kw5 : Hid (Kpt (fun b => w.heap.size ≤ b) wr w5) := by show Kpt _ _ _; rw [hw]; exact Kw4.out.trans (Kpt.setCell _ _ _ _ hwS)
      clear hw
      rw [rounds_succ]
      go_wp2_with fail
      refine (HN.out 2 y _ w5 HXw5.out rfl rfl HM.out.2.1.1 HM.out.2.1.2).mono ?_
      rintro e w6 ⟨rfl, hx, hk2⟩
      have HXw6 : Hid (Bk ax (((axs x y z p k).set (0 + 1) (.int .i64 (rm x.natAbs p (k + 1) : Nat))).set (2 + 1) (.int .i64 (rm y.natAbs p (k + 1) : Nat))) w6) := hx
      have HSw6 : Hid (Bk S [.int .i64 (stp x p k), .int .i64 0, .int .i64 0] w6) := bk_kpt HSw5.out hk2 hne
      have Kw6 : Hid (Kpt (fun b => w.heap.size ≤ b) wr w6) := Kw5.out.trans (hk2.mono fun b e => by omega)
      clear hx hk2
      have c0 := HSw6.out.c 1 rfl
      have f0 := HSw6.out.f 1 rfl
      go_wp2_with fail
      clear c0 f0
      obtain ⟨w7, hw⟩ : ∃ ww : World, ww = w6.setCell ⟨S, 1, none⟩ (.int .i64 (stp y p k)) := ⟨_, rfl⟩
      rw [← hw]
      have HXw7 : Hid (Bk ax (((axs x y z p k).set (0 + 1) (.int .i64 (rm x.natAbs p (k + 1) : Nat))).set (2 + 1) (.int .i64 (rm y.natAbs p (k + 1) : Nat))) w7) := by show Bk _ _ _; rw [hw]; exact HXw6.out.other (Ne.symm hne) 1 _
      have HSw7 : Hid (Bk S [.int .i64 (stp x p k), .int .i64 (stp y p k), .int .i64 0] w7) := by show Bk _ _ _; rw [hw]; exact HSw6.out.put 1 _
      have Kw7 : Hid (Kpt (fun b => w.heap.size ≤ b) wr w7) := by show Kpt _ _ _; rw [hw]; exact Kw6.out.trans (Kpt.setCell _ _ _ _ hwS)
      clear hw
      rw [rounds_succ]
      go_wp2_with fail
      refine (HN.out 4 z _ w7 HXw7.out rfl rfl HM.out.2.2.1 HM.out.2.2.2).mono ?_
      rintro e w8 ⟨rfl, hx, hk2⟩
      have HXw8 : Hid (Bk ax ((((axs x y z p k).set (0 + 1) (.int .i64 (rm x.natAbs p (k + 1) : Nat))).set (2 + 1) (.int .i64 (rm y.natAbs p (k + 1) : Nat))).set (4 + 1) (.int .i64 (rm z.natAbs p (k + 1) : Nat))) w8) := hx
      have HSw8 : Hid (Bk S [.int .i64 (stp x p k), .int .i64 (stp y p k), .int .i64 0] w8) := bk_kpt HSw7.out hk2 hne
      have Kw8 : Hid (Kpt (fun b => w.heap.size ≤ b) wr w8) := Kw7.out.trans (hk2.mono fun b e => by omega)
      clear hx hk2
      have c0 := HSw8.out.c 2 rfl
      have f0 := HSw8.out.f 2 rfl
      go_wp2_with fail
      clear c0 f0
      obtain ⟨w9, hw⟩ : ∃ ww : World, ww = w8.setCell ⟨S, 2, none⟩ (.int .i64 (stp z p k)) := ⟨_, rfl⟩
      rw [← hw]
      have HXw9 : Hid (Bk ax ((((axs x y z p k).set (0 + 1) (.int .i64 (rm x.natAbs p (k + 1) : Nat))).set (2 + 1) (.int .i64 (rm y.natAbs p (k + 1) : Nat))).set (4 + 1) (.int .i64 (rm z.natAbs p (k + 1) : Nat))) w9) := by show Bk _ _ _; rw [hw]; exact HXw8.out.other (Ne.symm hne) 2 _
      have HSw9 : Hid (Bk S [.int .i64 (stp x p k), .int .i64 (stp y p k), .int .i64 (stp z p k)] w9) := by show Bk _ _ _; rw [hw]; exact HSw8.out.put 2 _
      have Kw9 : Hid (Kpt (fun b => w.heap.size ≤ b) wr w9) := by show Kpt _ _ _; rw [hw]; exact Kw8.out.trans (Kpt.setCell _ _ _ _ hwS)
      clear hw
      rw [rounds_succ]
      have c0 := HSw9.out.c 0 rfl
      have c1 := HSw9.out.c 1 rfl
      have c2 := HSw9.out.c 2 rfl
      have hcall := HC.out k hlt w9 (HJ.out _ _ _ HJk.out Kw9.out) (Nat.le_trans HSZ.out Kw9.out.size)
      have HXn : Hid (Bk ax (axs x y z p (k + 1)) w9) := HXw9.out
      have HZ9 : Hid (w.heap.size ≤ w9.heap.size) := Nat.le_trans HSZ.out Kw9.out.size
      go_wp2_with (go_at_fn g; refine hcall.mono ?_; rintro e w10 ⟨⟨v, rfl⟩, hj10, hk10⟩; have HJ10 : Hid (J (k + 1) w10) := hj10; have HX10 : Hid (Bk ax (axs x y z p (k + 1)) w10) := bk_kpt HXn.out hk10 (by omega); have HZ10 : Hid (w.heap.size ≤ w10.heap.size) := Nat.le_trans HZ9.out hk10.size; clear hj10 hk10)
      go_roundw
      case rel => exact ⟨k + 1, by omega, by go_num, HJ10.out, HX10.out, HZ10.out⟩
      case measure => simp [intOf]; omega
    · have e : k = p := by omega
      have HJp : Hid (J p wr) := e ▸ HJk.out
      clear e
      go_wp2
      refine bodyPost_end (v := .tuple #[]) (by simp [results, Try.results23, go_sem]) rfl ⟨⟨_, rfl⟩, HJp.out⟩
end Go.Proofs.Ytanmfhaiahhoeaa
