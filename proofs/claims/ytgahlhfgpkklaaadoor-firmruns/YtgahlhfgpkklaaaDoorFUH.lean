/- Commands in a slice; Run walked. -/
import Derived.Test.YtgahlhfgpkklaaaDoorFRH
namespace Go.Proofs.YtgahlhfgpkklaaaDoor
open Go.RowKit Go.Maps

/-- Commands that can be read, from an address on. -/
def RdC (w : World) (ao : Option Addr) (l : List Cm) : Prop :=
  l = [] ∨ ∃ b o, ao = some ⟨b, o, none⟩ ∧ b < w.heap.size ∧ ∀ i (h : i < l.length), w.cell? ⟨b, o + i * 5, none⟩ = some (.int .i64 (l[i]'h).k) ∧ w.cell? ⟨b, o + i * 5 + 1, none⟩ = some (.int .i64 (l[i]'h).x) ∧ w.cell? ⟨b, o + i * 5 + 2, none⟩ = some (.int .i64 (l[i]'h).y) ∧ w.cell? ⟨b, o + i * 5 + 3, none⟩ = some (.int .i64 (l[i]'h).z) ∧ w.cell? ⟨b, o + i * 5 + 4, none⟩ = some (.int .i64 (l[i]'h).v)
theorem RdC.low {w w1 : World} {ao : Option Addr} {l : List Cm} {N : Nat} (h : RdC w ao l) (hb : Below N w w1) (hN : ∀ b o, ao = some ⟨b, o, none⟩ → b < N) : RdC w1 ao l := by
  rcases h with h | ⟨b, o, h1, h2, h3⟩
  · exact .inl h
  · have hl := hN b o h1
    have hc : ∀ k v, w.cell? ⟨b, k, none⟩ = some v → w1.cell? ⟨b, k, none⟩ = some v := fun k v hv => (World.cell?_of_block (hb.block b hl)).trans hv
    exact .inr ⟨b, o, h1, Nat.lt_of_lt_of_le h2 hb.size, fun i hi => ⟨hc _ _ (h3 i hi).1, hc _ _ (h3 i hi).2.1, hc _ _ (h3 i hi).2.2.1, hc _ _ (h3 i hi).2.2.2.1, hc _ _ (h3 i hi).2.2.2.2⟩⟩
theorem RdC.later {w w1 : World} {ao : Option Addr} {l : List Cm} (h : RdC w ao l) (hb : Below w.heap.size w w1) : RdC w1 ao l := by
  rcases h with h | ⟨b, o, h1, h2, h3⟩
  · exact .inl h
  · exact RdC.low (.inr ⟨b, o, h1, h2, h3⟩) hb fun b' o' e => by
      rw [h1] at e
      injection e with e
      injection e with e1 e2
      omega
theorem RdC.at {w : World} {ao : Option Addr} {l : List Cm} (h : RdC w ao l) {i : Nat} (hi : i < l.length) : ∃ b o, ao = some ⟨b, o, none⟩ ∧ b < w.heap.size ∧ w.cell? ⟨b, o + i * 5, none⟩ = some (.int .i64 (l[i]'hi).k) ∧ w.cell? ⟨b, o + i * 5 + 1, none⟩ = some (.int .i64 (l[i]'hi).x) ∧ w.cell? ⟨b, o + i * 5 + 2, none⟩ = some (.int .i64 (l[i]'hi).y) ∧ w.cell? ⟨b, o + i * 5 + 3, none⟩ = some (.int .i64 (l[i]'hi).z) ∧ w.cell? ⟨b, o + i * 5 + 4, none⟩ = some (.int .i64 (l[i]'hi).v) := by
  rcases h with h | ⟨b, o, h1, h2, h3⟩
  · subst h; simp at hi
  · exact ⟨b, o, h1, h2, h3 i hi⟩
/-- Running commands: the state, how many, the error. -/
def runC (r : Rg) : Fm → Nat → List Cm → Fm × Nat × Int
  | f, k, [] => (f, k, 0)
  | f, k, c :: l => if doN r f c = 0 then runC r (doF r f c) (k + 1) l else (f, k, doN r f c)
/-- What firm.Run gives. -/
def RunV (r : Rg) (l : List Cm) : Fm × Nat × Int := if rgOk r = false then (f0, 0, 2) else runC r f0 0 l
theorem doF_ok {r : Rg} {f : Fm} {c : Cm} (hr : RgOk r) (hf : FmOk r f) : FmOk r (doF r f c) := by
  unfold doF
  split
  · rename_i h
    unfold doN at h
    split at h
    · rename_i hc
      exact (keep_ok hr hf hc ((numE_zero (o := obE r f c) fun i hi => obE_lt hi).1 h)).1
    · rename_i hc
      exact absurd h hc
  · exact hf
set_option maxHeartbeats 6400000 in
set_option maxRecDepth 100000 in
theorem Run_a (a : Nat → Addr) (n : Nat) (r : Rg) (ao : Option Addr) (cap : Nat) (l : List Cm) (w : World) (hg : Gl a n w) (h : rgOk r = false) :
    Calls Tryd.prog 15 #[rgv r, .slice ao l.length cap] w fun e w' => e = .returned (.tuple #[zfv, .int .i64 0, .int .i64 2]) ∧ Below w.heap.size w w' := by
  obtain ⟨w0, hw0⟩ : ∃ x, x = (w.alloc (rgo r)).alloc zfo := ⟨_, rfl⟩
  have HB0 : Hid (Below w.heap.size w w0) := by show Below _ _ _; rw [hw0]; exact two_new _ _ _
  have KZ0 : Hid (Bk (w.heap.size + 1) zfc w0) := by show Bk _ _ _; rw [hw0]; exact Bk.new (w.alloc (rgo r)) zfc 29 (w.heap.size + 1) (by simp)
  have HG0 : Hid (Gl a n w0) := hg.later HB0.out
  obtain ⟨Z, hZ⟩ : ∃ b, b = w.heap.size + 1 := ⟨_, rfl⟩
  rw [← hZ] at KZ0
  have hZw : w.heap.size ≤ Z := by omega
  have HN : Hid (∀ W, Gl a n W → Calls Tryd.prog 19 #[rgv r, zfv] W fun e w' => e = .returned (.tuple #[zbv, .iface 109 (.pointer (some (a 1)))]) ∧ Below W.heap.size W w') := fun W hW => newBoard_no a n r f0 W hW (nb_none h f0)
  have HE : Hid (∀ W, Gl a n W → Calls Tryd.prog 20 #[.iface 109 (.pointer (some (a 1)))] W fun e w' => e = .returned (.int .i64 2) ∧ w' = W) := fun W hW => number_1 a n W hW
  clear h hg
  go_enter Tryd.func15, Tryd.ntmps15
  go_wp2_with fail
  simp only [← hw0, ← hZ]
  clear hw0 hZ
  refine (HN.out _ HG0.out).mono ?_
  rintro e w1 ⟨rfl, hb1⟩
  have HG1 : Hid (Gl a n (w1.alloc zbo)) := (HG0.out.later hb1).later (one_new _ _)
  have HB2 : Hid (Below w.heap.size w (w1.alloc zbo)) := below_on (below_on HB0.out hb1) (one_new _ _)
  have KZ1 : Hid (Bk Z zfc (w1.alloc zbo)) := (KZ0.out.later hb1).later (one_new _ _)
  clear hb1 KZ0
  go_wp2_with (refine wpList_store_new rfl 52 _ _ rfl w1 w1.heap.size _ _ rfl rfl rfl rfl info52 rfl (by kernel_rfl) ?_)
  refine Calls.mono (HE.out _ HG1.out) ?_
  rintro e w2 ⟨rfl, rfl⟩
  go_wp2_with (refine wpList_store_mid rfl 29 _ _ rfl Z 0 zfc.toArray rfl rfl (KZ1.out.there (Nat.le_refl _)) info29 (by kernel_rfl) ?_)
  have KZ2 : Hid (Bk Z zfc ((w1.alloc zbo).setCells Z 0 zfc)) := KZ1.out.setAll _ rfl
  have HB3 : Hid (Below w.heap.size w ((w1.alloc zbo).setCells Z 0 zfc)) := HB2.out.trans (low_setCells hZw _ _ _)
  exact bodyPost_ret (v := .tuple #[zfv, .int .i64 0, .int .i64 2]) (results_ctt Tryd.results15 _ _ _ rfl rfl rfl (run_loadVar_mid (P := Tryd.prog) _ Z 0 29 zfc _ KZ2.out.range Tryd.underlying29 rfl info29)) rfl ⟨rfl, HB3.out⟩
/-- What holds in the loop: so many are done, the state is f. -/
structure RnI (a : Nat → Addr) (n : Nat) (r : Rg) (l : List Cm) (B M Z : Nat) (ao : Option Addr) (w : World) (k : Nat) (f : Fm) (W : World) : Prop where
  bd : Bd B M r f W
  gl : Gl a n W
  z : Bk Z zfc W
  rd : RdC W ao l
  low : Below w.heap.size w W
  ok : FmOk r f
  rest : runC r f0 0 l = runC r f k (l.drop k)
set_option maxHeartbeats 6400000 in
set_option maxRecDepth 100000 in
theorem Run_b (a : Nat → Addr) (n : Nat) (r : Rg) (ao : Option Addr) (cap : Nat) (l : List Cm) (w : World) (hg : Gl a n w) (h : rgOk r = true) (hR : RdC w ao l) (hl : l.length ≤ 1152921504606846976) :
    Calls Tryd.prog 15 #[rgv r, .slice ao l.length cap] w fun e w' => e = .returned (.tuple #[fv (runC r f0 0 l).1, .int .i64 ((runC r f0 0 l).2.1 : Nat), .int .i64 (runC r f0 0 l).2.2]) ∧ Below w.heap.size w w' := by
  obtain ⟨w0, hw0⟩ : ∃ x, x = (w.alloc (rgo r)).alloc zfo := ⟨_, rfl⟩
  have HB0 : Hid (Below w.heap.size w w0) := by show Below _ _ _; rw [hw0]; exact two_new _ _ _
  have KZ0 : Hid (Bk (w.heap.size + 1) zfc w0) := by show Bk _ _ _; rw [hw0]; exact Bk.new (w.alloc (rgo r)) zfc 29 (w.heap.size + 1) (by simp)
  have HG0 : Hid (Gl a n w0) := hg.later HB0.out
  obtain ⟨Z, hZ⟩ : ∃ b, b = w.heap.size + 1 := ⟨_, rfl⟩
  rw [← hZ] at KZ0
  have hZw : w.heap.size ≤ Z := by omega
  have hn0 : n ≤ w.heap.size := hg.size
  obtain ⟨RV, hRV⟩ : ∃ x, x = runC r f0 0 l := ⟨_, rfl⟩
  have HRV : Hid (RV = runC r f0 0 l) := hRV
  rw [← hRV]
  clear hRV
  have HRg : Hid (RgOk r) := rgOk_iff.1 h
  have HN : Hid (∀ W, Calls Tryd.prog 19 #[rgv r, zfv] W fun e w' => ∃ M, e = .returned (.tuple #[bdv r f0 M, .nilIface]) ∧ W.heap.size ≤ M ∧ TM r.rp M w' ∧ Below W.heap.size W w') := fun W => newBoard_c r f0 W h (fmOk_iff.2 (f0_ok (rgOk_iff.1 h)))
  have HD : Hid (∀ B M f c W, Bd B M r f W → Gl a n W → n ≤ B → n ≤ M → FmOk r f → Calls Tryd.prog 21 #[ptr B, cmv c] W fun e w' => e = .returned (.int .i64 (doN r f c)) ∧ Bd B M r (doF r f c) w' ∧ Kpt (BM B M) W w') := fun B M f c W h1 h2 h3 h4 h5 => do_any a n B M r f c W h1 h2 h3 h4 (rgOk_iff.1 h) h5
  have HRd : Hid (RdC w ao l) := hR
  have HLw : Hid (∀ b o, l ≠ [] → ao = some ⟨b, o, none⟩ → b < w.heap.size) := fun b o hne e => by
    rcases hR with h0 | ⟨b', o', h1, h2, _⟩
    · exact absurd h0 hne
    · rw [h1] at e; injection e with e; injection e with e1 e2; omega
  clear h hg hR
  go_enter Tryd.func15, Tryd.ntmps15
  go_wp2_with fail
  simp only [← hw0, ← hZ]
  clear hw0 hZ
  refine (HN.out _).mono ?_
  rintro e w1 ⟨M, rfl, hM, ht, hb1⟩
  have HB1 : Hid (Below w.heap.size w w1) := below_on HB0.out hb1
  have hM2 : M < w1.heap.size := ht.lt
  have hMw : w.heap.size ≤ M := Nat.le_trans HB0.out.size hM
  obtain ⟨w2, hw2⟩ : ∃ y, y = w1.alloc (bdo r f0 M) := ⟨_, rfl⟩
  have HB2 : Hid (Below w.heap.size w w2) := by show Below _ _ _; rw [hw2]; exact below_on HB1.out (one_new _ _)
  have HI2 : Hid (RnI a n r l w1.heap.size M Z ao w 0 f0 w2) := by
    refine ⟨?_, ?_, ?_, HRd.out.later HB2.out, HB2.out, f0_ok HRg.out, rfl⟩
    · rw [hw2]; exact ⟨Bk.new w1 (bdc r f0 M) 52 w1.heap.size rfl, ht.later (one_new _ _), by omega⟩
    · rw [hw2]; exact (HG0.out.later hb1).later (one_new _ _)
    · rw [hw2]; exact (KZ0.out.later hb1).later (one_new _ _)
  have hZ1 : Z < w1.heap.size := (KZ0.out.later hb1).1
  have hZM : Z ≠ M := by have := KZ0.out.1; omega
  obtain ⟨B, hB⟩ : ∃ b, b = w1.heap.size := ⟨_, rfl⟩
  rw [← hB] at HI2
  have HX : Hid (n ≤ B ∧ n ≤ M ∧ Z ≠ B ∧ Z ≠ M ∧ w.heap.size ≤ B ∧ w.heap.size ≤ M) := by have := HB1.out.size; show _ ∧ _; omega
  clear hb1 ht hM
  go_wp2_with (refine wpList_store_new rfl 52 _ _ rfl w1 w1.heap.size _ _ rfl rfl rfl rfl info52 rfl (by kernel_rfl) ?_)
  simp only [show w1.alloc (.cells (bdc r f0 M).toArray 52) = w2 from hw2.symm, ← hB]
  clear hw2 hB hM2 hZ1 hZM HN HB0 HB1 HB2 HG0 KZ0 HRd
  obtain ⟨len, hlen⟩ : ∃ x, x = l.length := ⟨_, rfl⟩
  have HLen : Hid (len = l.length) := hlen
  simp only [← hlen]
  rw [← hlen] at hl
  clear hlen
  go_loopw [25] (fun i wr => ∃ (k : Nat) (f : Fm), k ≤ len ∧ i = .int .i64 (k : Int) ∧ RnI a n r l B M Z ao w k f wr) (fun i _ => len - (intOf i).toNat)
  case atStart => exact ⟨0, f0, Nat.zero_le _, rfl, HI2.out⟩
  case round =>
    obtain ⟨k, f, hk, rfl, hI⟩ := hrel
    have HI : Hid (RnI a n r l B M Z ao w k f wr) := hI
    clear hI
    by_cases hlt : k < len
    · have hkl : k < l.length := by rw [← HLen.out]; exact hlt
      obtain ⟨b, off, hao, hbw, e0, e1, e2, e3, e4⟩ := HI.out.rd.at hkl
      obtain ⟨c, hc⟩ : ∃ c, c = l[k]'hkl := ⟨_, rfl⟩
      have HDr : Hid (l.drop k = c :: l.drop (k + 1)) := by show _ = _; rw [hc]; exact List.drop_eq_getElem_cons hkl
      rw [← hc] at e0 e1 e2 e3 e4
      subst hao
      obtain ⟨w3, hw3⟩ : ∃ x, x = wr.alloc (cmo c) := ⟨_, rfl⟩
      have hb3 : Below wr.heap.size wr w3 := by rw [hw3]; exact one_new _ _
      have HB3 : Hid (Below wr.heap.size wr w3) := hb3
      have HC := HD.out B M f c w3 (HI.out.bd.later hb3) (HI.out.gl.later hb3) HX.out.1 HX.out.2.1 HI.out.ok
      have HLb : Hid (b < w.heap.size) := HLw.out b off (fun e => by rw [e] at hkl; simp at hkl) rfl
      obtain ⟨x, hx⟩ : ∃ x, x = doN r f c := ⟨_, rfl⟩
      have HXx : Hid (x = doN r f c) := hx
      rw [← hx] at HC
      have HC' := (show Hid _ from HC)
      clear hc hb3 HC hx
      go_wp2_with fail
      simp only [show wr.alloc (.cells #[.int .i64 c.k, .int .i64 c.x, .int .i64 c.y, .int .i64 c.z, .int .i64 c.v] 31) = w3 from hw3.symm]
      clear hw3 e0 e1 e2 e3 e4 hbw
      refine Calls.mono HC'.out ?_
      rintro e w4 ⟨rfl, hd4, hk4⟩
      have HB4 : Hid (Below w.heap.size w w4) := (below_on HI.out.low HB3.out).trans (hk4.below (Nat.le_trans HI.out.low.size HB3.out.size) fun k hk => by rcases hk with e | e <;> (have := HX.out; omega))
      have HG4 : Hid (Gl a n w4) := (HI.out.gl.later HB3.out).onB hk4 HX.out.1 HX.out.2.1
      have KZ4 : Hid (Bk Z zfc w4) := bk_kpt (HI.out.z.later HB3.out) hk4 fun e => by rcases e with e | e <;> (have := HX.out; omega)
      by_cases hx0 : x = 0
      · have HD4 : Hid (Bd B M r (doF r f c) w4) := hd4
        have HI4 : Hid (RnI a n r l B M Z (some ⟨b, off, none⟩) w (k + 1) (doF r f c) w4) := ⟨hd4, HG4.out, KZ4.out, HI.out.rd.low (N := w.heap.size) ((HB3.out.mono HI.out.low.size).trans (hk4.below (Nat.le_trans HI.out.low.size HB3.out.size) fun k hk => by rcases hk with e | e <;> (have := HX.out; omega))) (fun b' o' e => by injection e with e; injection e with e1 e2; have := HLb.out; omega), HB4.out, doF_ok HRg.out HI.out.ok, by rw [HI.out.rest, HDr.out, runC, if_pos (by rw [← HXx.out, hx0])]⟩
        clear hd4 hk4
        go_wp2
        go_roundw
        case rel => exact ⟨k + 1, _, by omega, by go_num, HI4.out⟩
        case measure => simp [intOf]; omega
      · have hfe : doF r f c = f := by unfold doF; rw [if_neg (by rw [← HXx.out]; exact hx0)]
        rw [hfe] at hd4
        have HD4 : Hid (Bd B M r f w4) := hd4
        have HRe : Hid (RV = (f, k, x)) := by show _ = _; rw [HRV.out, HI.out.rest, HDr.out, runC, if_neg (by rw [← HXx.out]; exact hx0), HXx.out]
        clear hd4 hk4 hfe
        have d12 := HD4.out.bk.c 12 rfl
        have d13 := HD4.out.bk.c 13 rfl
        have d14 := HD4.out.bk.c 14 rfl
        have d15 := HD4.out.bk.c 15 rfl
        have d16 := HD4.out.bk.c 16 rfl
        have d17 := HD4.out.bk.c 17 rfl
        have d18 := HD4.out.bk.c 18 rfl
        have d19 := HD4.out.bk.c 19 rfl
        have d20 := HD4.out.bk.c 20 rfl
        go_wp2_with (refine wpList_store_mid rfl 29 _ _ rfl Z 0 (fc f).toArray rfl rfl (KZ4.out.there (Nat.le_refl _)) info29 (by kernel_rfl) ?_)
        have KZ5 : Hid (Bk Z (fc f) (w4.setCells Z 0 (fc f))) := KZ4.out.setAll _ rfl
        have HB5 : Hid (Below w.heap.size w (w4.setCells Z 0 (fc f))) := HB4.out.trans (low_setCells hZw _ _ _)
        exact bodyPost_ret (v := .tuple #[fv f, .int .i64 (k : Int), .int .i64 x]) (results_ctt Tryd.results15 _ _ _ rfl rfl rfl (load29 KZ5.out)) rfl ⟨by rw [HRe.out], HB5.out⟩
    · have hke : k = len := by omega
      subst hke
      have HRe : Hid (RV = (f, k, 0)) := by show _ = _; rw [HRV.out, HI.out.rest, HLen.out, List.drop_length]; rfl
      have KZ4 : Hid (Bk Z zfc wr) := HI.out.z
      have HD4 : Hid (Bd B M r f wr) := HI.out.bd
      have d12 := HD4.out.bk.c 12 rfl
      have d13 := HD4.out.bk.c 13 rfl
      have d14 := HD4.out.bk.c 14 rfl
      have d15 := HD4.out.bk.c 15 rfl
      have d16 := HD4.out.bk.c 16 rfl
      have d17 := HD4.out.bk.c 17 rfl
      have d18 := HD4.out.bk.c 18 rfl
      have d19 := HD4.out.bk.c 19 rfl
      have d20 := HD4.out.bk.c 20 rfl
      go_wp2_with (refine wpList_store_mid rfl 29 _ _ rfl Z 0 (fc f).toArray rfl rfl (KZ4.out.there (Nat.le_refl _)) info29 (by kernel_rfl) ?_)
      have KZ5 : Hid (Bk Z (fc f) (wr.setCells Z 0 (fc f))) := KZ4.out.setAll _ rfl
      have HB5 : Hid (Below w.heap.size w (wr.setCells Z 0 (fc f))) := HI.out.low.trans (low_setCells hZw _ _ _)
      exact bodyPost_ret (v := .tuple #[fv f, .int .i64 (k : Int), .int .i64 0]) (results_ctt Tryd.results15 _ _ _ rfl rfl rfl (load29 KZ5.out)) rfl ⟨by rw [HRe.out], HB5.out⟩
end Go.Proofs.YtgahlhfgpkklaaaDoor
