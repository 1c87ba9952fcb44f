/- flow.Reach walked. -/
import Derived.Test.YtgbnjgenopdmfaaLR
import Derived.Test.YtgbnjgenopdmfaaLF
namespace Go.Proofs.Ytgbnjgenopdmfaa
open Go.RowKit Go.Maps

attribute [local go_sem] Oper.semAt_some
set_option linter.unusedVariables false in
def reV (L S G Mb ga off n cap : Nat) (s : Shr) (q : Plc) (came : Int) (has : Bool) (i : Nat) (l : List Value) (w : World) : Prop :=
  match i, l with
  | 0, [v] => v = .map (some Mb)
  | 1, [v] => v = .slice (some ⟨ga, off, none⟩) n cap
  | 2, [v] => v = .pointer (some ⟨G, 0, none⟩)
  | 3, [v] => v = .int .i64 s.draw
  | 4, [v] => v = .pointer (some ⟨ga, off + s.draw * 8, none⟩)
  | 5, [v] => v = .pointer (some ⟨ga, off + s.draw * 8 + 1, none⟩)
  | 6, [v] => v = .agg #[.int .i64 q.1, .int .i64 q.2.1, .int .i64 q.2.2]
  | 7, [v] => v = .tuple #[.int .i64 came, .bool has]
  | 8, [v] => v = .tuple #[.int .i64 came, .bool has]
  | 9, [v] => v = .int .i64 came
  | 10, [v] => v = .bool has
  | 11, [v] => v = .int .i64 came
  | 12, [v] => v = .bool has
  | _, _ => True
theorem en_S : ∀ args w, (callFunc 23 args).run Try.prog w = .ok (.enter 23 args) w := enters_of Try.func23 (by kernel_rfl) rfl
theorem keys_make (b : Nat) (w : World) :
    Calls Try.prog 18 #[.map (some b)] w fun e w' => e = .returned (.func (.func 30) #[] #[ptr w.heap.size]) ∧ w' = w.alloc (.cells #[.map (some b)] 59) := by
  go_enter Try.func18, Try.ntmps18
  go_wp2
  go_ret
  exact ⟨rfl, rfl⟩
theorem putI_new {m : List (Plc × Int)} {p : Plc} {v : Int} (h : atI m p = none) : putI m p v = m ++ [(p, v)] := by
  unfold putI
  rw [List.filter_eq_self.2]
  intro x hx
  simpa using atI_none.1 h x hx
theorem rch_len (l : List Acn) (p : Plc) (ss : List Shr) : (rchF l p ss).length ≤ ss.length + 1 := by
  induction ss using snocInd with
  | h0 => simp [rchF]
  | h1 ss s ih =>
    rw [rchF_snoc, List.length_append, List.length_singleton]
    unfold rchS
    split
    · omega
    · split
      · omega
      · split
        · simp; omega
        · omega
theorem shares_few (l : List Acn) : (shares l).length ≤ l.length * l.length := by
  have : ∀ n, n ≤ l.length → (shares (l.take n)).length ≤ n * l.length := by
    intro n
    induction n with
    | zero => intro _; simp [shares, shrR]
    | succ n ih =>
      intro hn
      have e : l.take (n + 1) = l.take n ++ [l[n]'(by omega)] := by rw [List.take_succ_eq_append_getElem]
      rw [e, shares_snoc, List.length_append]
      have h1 := fol_few (l.take n).length (l[n]'(by omega)) (tipR 0 tp0 (l.take n))
      have h2 := tip_len (l.take n)
      have h3 : (l.take n).length = n := by rw [List.length_take]; omega
      have := ih (by omega)
      rw [Nat.succ_mul]
      omega
  have h := this l.length (Nat.le_refl _)
  rwa [List.take_length] at h
theorem shares_most {l : List Acn} (h : l.length ≤ 3000) : (shares l).length ≤ 9000000 := by
  have h1 := shares_few l
  have h2 : l.length * l.length ≤ 3000 * 3000 := Nat.mul_le_mul h h
  omega
/-- What holds between two shares. -/
structure Re (w : World) (S : Nat) (ao : Option Addr) (cap : Nat) (acs : List Acn) (m : List (Plc × Int)) (W : World) : Prop where
  mp : WI keP W (w.heap.size + 2) m
  kl : Bk w.heap.size [.slice ao acs.length cap] W
  ks : Bk S [.map (some (w.heap.size + 2))] W
  acn : Acs W ao acs
  below : Below w.heap.size w W
  more : w.heap.size + 3 ≤ S
theorem Re.kpt {w : World} {S : Nat} {ao : Option Addr} {cap : Nat} {acs : List Acn} {m : List (Plc × Int)} {W W1 : World} {M : Nat → Prop} (h : Re w S ao cap acs m W) (hal : ∀ ad, ao = some ad → acs ≠ [] → ad.block < w.heap.size) (hk : Kpt M W W1) (hM : ∀ k, M k → S < k) : Re w S ao cap acs m W1 := by
  have hm := h.more
  exact ⟨h.mp.same (hk.block _ h.mp.lt (fun e => by have := hM _ e; omega)), h.kl.same hk.size (hk.block _ h.kl.1 (fun e => by have := hM _ e; omega)), h.ks.same hk.size (hk.block _ h.ks.1 (fun e => by have := hM _ e; omega)),
   acs_kept h.acn hk (fun ad e hne hm => by have := hM _ hm; have := hal ad e hne; omega), h.below.trans (hk.below h.below.size (fun k e => by have := hM _ e; omega)), hm⟩
theorem Re.put {w : World} {S : Nat} {ao : Option Addr} {cap : Nat} {acs : List Acn} {m m1 : List (Plc × Int)} {W W1 : World} (h : Re w S ao cap acs m W) (hal : ∀ ad, ao = some ad → acs ≠ [] → ad.block < w.heap.size) (hk : Kpt (fun k => k = w.heap.size + 2) W W1) (hm1 : WI keP W1 (w.heap.size + 2) m1) : Re w S ao cap acs m1 W1 := by
  have hm := h.more
  exact ⟨hm1, h.kl.same hk.size (hk.block _ h.kl.1 (by omega)), h.ks.same hk.size (hk.block _ h.ks.1 (by omega)),
   acs_kept h.acn hk (fun ad e hne hm => by have := hal ad e hne; omega), h.below.trans (hk.below h.below.size (fun k e => by omega)), hm⟩
set_option maxHeartbeats 6400000 in
set_option maxRecDepth 100000 in
theorem reach_any (ao : Option Addr) (cap : Nat) (acs : List Acn) (p : Plc) (w : World) (hA : Acs w ao acs) (hal : ∀ ad, ao = some ad → acs ≠ [] → ad.block < w.heap.size) (hla : acs.length ≤ 9223372036854775807) (hpl : ∀ a ∈ acs, Wf3 a.pl) (hp : Wf3 p) :
    Calls Try.prog 8 #[.slice ao acs.length cap, plv p] w fun e w' => Below w.heap.size w w' ∧ ((3000 < acs.length ∧ e = .returned (.tuple #[.slice none 0 0, .int .i64 7])) ∨
      (acs.length ≤ 3000 ∧ ∃ s aoS capS, e = .returned (.tuple #[.slice aoS s.length capS, .int .i64 0]) ∧ s.Perm ((reachM acs p).map (·.1)) ∧ s.Pairwise (fun x y => pltB y x = false) ∧ RdR encP w' aoS s ∧ ∀ ad, aoS = some ad → w.heap.size ≤ ad.block)) := by
  refine (callsIn_wide (n := 3)).1 (callsIn_of_wp_marks Try.func8 rfl trivial (wpIn_wide.2 ?_) rfl)
  simp only [Try.ntmps8, List.size_toArray, List.length_cons, List.length_nil, Nat.reduceAdd, Nat.reduceSub, Array.replicate_succ, Array.replicate_zero, List.push_toArray, List.append_toArray, List.nil_append, List.cons_append]
  by_cases hbig : 3000 < acs.length
  · go_wp2
    refine leave_plain (v := .tuple #[.slice none 0 0, .int .i64 7]) (by simp [results, Try.results8, go_sem]) ⟨?_, .inl ⟨hbig, rfl⟩⟩
    exact ((Below.refl _ _).alloc (Nat.le_refl _) _).alloc (by simp) _
  · have hl : acs.length ≤ 3000 := by omega
    have HA : Hid (Acs w ao acs) := hA
    have HAL : Hid (∀ ad, ao = some ad → acs ≠ [] → ad.block < w.heap.size) := hal
    have HPL : Hid (∀ a ∈ acs, Wf3 a.pl) := hpl
    clear hA hal hpl
    obtain ⟨w2, hr2, hm2, hg2⟩ := (WI.made keP ((w.alloc (.cells #[.slice ao acs.length cap] 22)).alloc (pobj p))).put lawKP (t := 59) Try.underlying59 hp (-1) (by simp)
    have hkp2 : Kpt (fun k => k = w.heap.size + 2) ((w.alloc (.cells #[.slice ao acs.length cap] 22)).alloc (pobj p)) w2 := (Kpt.of_below ((Below.refl _ _).alloc (Nat.le_refl _) _)).trans (Kpt.grown hg2 fun k e => by simp at e; omega)
    have kl1 : Bk w.heap.size [.slice ao acs.length cap] ((w.alloc (.cells #[.slice ao acs.length cap] 22)).alloc (pobj p)) := (Bk.new w [.slice ao acs.length cap] 22 w.heap.size rfl).later ((Below.refl _ _).alloc (Nat.le_refl _) _)
    have kl2 : Bk w.heap.size [.slice ao acs.length cap] w2 := kl1.same hkp2.size (hkp2.block _ kl1.1 (by omega))
    have hb2 : Below w.heap.size w w2 := (((Below.refl _ _).alloc (Nat.le_refl _) _).alloc (by simp) _).trans (hkp2.below (by simp; omega) (fun k e => by omega))
    simp only [World.size_alloc] at hr2 hm2 hg2
    have hs3 : w.heap.size + 3 ≤ w2.heap.size := by have := hm2.lt; omega
    have hmm := @run_makeMap Try.prog
    have m0 := kl2.c 0 rfl
    have HRE : Hid (Re w w2.heap.size ao cap acs [(p, -1)] (w2.alloc (.cells #[.map (some (w.heap.size + 2))] 59))) := by
      have e2 : Below w2.heap.size w2 (w2.alloc (.cells #[.map (some (w.heap.size + 2))] 59)) := (Below.refl _ _).alloc (Nat.le_refl _) _
      exact ⟨WI.next (by simpa [putI] using hm2) e2, kl2.later e2, Bk.new w2 [.map (some (w.heap.size + 2))] 59 w2.heap.size rfl, HA.out.next (hb2.trans (e2.mono hb2.size)), hb2.trans (e2.mono hb2.size), hs3⟩
    have hneS : w.heap.size ≠ w2.heap.size := by omega
    have hltS : w.heap.size < w2.heap.size := by omega
    have m1 : (w2.alloc (.cells #[.map (some (w.heap.size + 1 + 1))] 59)).cell? ⟨w.heap.size, 0, none⟩ = some (.slice ao acs.length cap) := (kl2.later ((Below.refl _ _).alloc (Nat.le_refl _) _)).c 0 rfl
    go_wp2_with (go_at_call 14; refine (shares_make ao acs.length cap _).mono ?_; rintro e w3 ⟨rfl, rfl⟩)
    obtain ⟨wR, hwR⟩ : ∃ wR, wR = ((w2.alloc (.cells #[.map (some (w.heap.size + 1 + 1))] 59)).alloc (.cells #[.slice ao acs.length cap] 22)) := ⟨_, rfl⟩
    have hsR : wR.heap.size = w2.heap.size + 2 := by rw [hwR]; simp
    have HRR : Hid (Re w w2.heap.size ao cap acs (rchF acs p []) wR) := by
      show Re _ _ _ _ _ _ _
      rw [hwR]
      exact HRE.out.kpt HAL.out (Kpt.of_below (M := fun k => w2.heap.size < k) ((Below.refl _ _).alloc (Nat.le_refl _) _)) (fun k e => e)
    have KC : Hid (Bk (w2.heap.size + 1) [.slice ao acs.length cap] wR) := by
      show Bk _ _ _
      rw [hwR]
      exact Bk.new _ [.slice ao acs.length cap] 22 (w2.heap.size + 1) (by simp)
    rw [← hwR]
    clear hwR HRE m0 m1 hmm hr2 hm2 hg2 hkp2 kl1 kl2 hb2 HA
    obtain ⟨S, hS⟩ : ∃ S, S = w2.heap.size := ⟨_, rfl⟩
    rw [← hS] at hs3 hneS hltS hsR HRR KC ⊢
    clear hS
    refine range_gen (n := 3) (gf := 23) (lb := #[ptr (S + 1)]) rfl (fun args w => en_S args w) (fun k => S + 4 ≤ k) (fun k => k = w.heap.size + 2)
      (· <+: shares acs) (· = shares acs) (fun s : Shr => #[shv s]) (fun _ => rfl) ?_ (by rw [hsR]; exact fun k h => h) (by rw [hsR]; omega) (by rw [hsR]; omega) (fun pre W => Re w S ao cap acs (rchF acs p pre) W) ?_ HRR.out
      (fun s a1 A => ∃ g, S + 4 ≤ g ∧ a1 = { tmps := #[.slice ao acs.length cap, plv p, ptr w.heap.size, ptr (w.heap.size + 1), .slice none 0 0, .int .i64 0, ptr S, ptr g, undef, undef, undef, undef, undef, .slice ao acs.length cap, .int .i64 acs.length, .bool (decide ((3000 : Int) < (acs.length : Int))), .map (some (w.heap.size + 1 + 1)), plv p, .map (some (w.heap.size + 1 + 1)), .slice ao acs.length cap, .func (.func 23) #[] #[ptr (S + 1)], shv s, undef, undef, undef, undef, undef, undef, undef, undef, undef, undef, undef, undef, undef, undef, undef, undef, undef, undef, undef, undef, undef, undef, undef, undef, undef, undef, undef, undef, undef, undef, undef, undef, undef, undef, undef, undef, undef, undef, undef, undef], defers := [] } ∧ Bk g [.int .i64 s.draw, .int .i64 s.put, .int .i64 s.vol] A) ?_ ?_ ?_ ?_
    · intro W hb hs
      have e : W.heap.size = S + 4 := by rw [hs, hsR]
      have hre : Re w S ao cap acs (rchF acs p []) W := HRR.out.kpt HAL.out (Kpt.of_below (M := fun k => S < k) hb) (fun k e => e)
      have := shares_all 2 ao cap acs (S + 1) (w.heap.size + 2) (wR.heap.size + 1) W ((KC.out.later hb).c 0 rfl) (by omega) hre.acn hl (by omega) (fun ad e hne => by have := HAL.out ad e hne; omega)
      rw [e] at this
      exact this
    · intro s A B h hk
      exact h.kpt HAL.out hk (fun k e => by omega)
    · rintro s a1 A B ⟨g, h1, h2, h3⟩ hk
      exact ⟨g, h1, h2, h3.same hk.size (hk.block _ h3.1 (by omega))⟩
    · intro l pre s W K hI hpre hs hK
      have HKK : Hid _ := hK
      clear hK
      have K1 : Hid (Bk W.heap.size [.int .i64 s.draw, .int .i64 s.put, .int .i64 s.vol] (W.alloc (.cells #[.int .i64 s.draw, .int .i64 s.put, .int .i64 s.vol] 54))) := Bk.new W [.int .i64 s.draw, .int .i64 s.put, .int .i64 s.vol] 54 W.heap.size rfl
      refine region_round l _ (by rintro ⟨a, w, h⟩; exact h) (by kernel_rfl) ?_
      go_wp2
      exact HKK.out _ _ ⟨W.heap.size, by omega, rfl, K1.out⟩ ((Below.refl _ _).alloc (Nat.le_refl _) _)
    · rintro l pre s a1 W hI hpre hs ⟨g, hg, rfl, hk⟩
      have hok := shares_ok acs s (hpre.subset (by simp))
      have hlm : (rchF acs p pre).length ≤ 10000000 := by
        have h1 := rch_len acs p pre
        have h2 := hpre.length_le
        have h3 := shares_most hl
        simp at h2
        omega
      have HSN : Hid (rchF acs p (pre ++ [s]) = rchS acs (rchF acs p pre) s) := rchF_snoc _ _ _ _
      have hgl : g < W.heap.size := hk.1
      generalize rchF acs p pre = m at *
      have HI : Hid (Re w S ao cap acs m W) := hI
      have KL : Hid (Bk w.heap.size [.slice ao acs.length cap] W) := hI.kl
      have KS : Hid (Bk S [.map (some (w.heap.size + 2))] W) := hI.ks
      have KG : Hid (Bk g [.int .i64 s.draw, .int .i64 s.put, .int .i64 s.vol] W) := hk
      obtain ⟨hd, hp2, _, _, _⟩ := hok
      obtain ⟨ga, off, rfl, hc⟩ := hI.acn.at hd
      obtain ⟨_, _, e9, hc2⟩ := hI.acn.at hp2
      injection e9 with e9
      injection e9 with e91 e92 e93
      subst e91 e92
      have HWQ : Hid (Wf3 (plA acs s.draw)) := by show Wf3 _; rw [plA_at hd]; exact HPL.out _ (List.getElem_mem hd)
      have HWP : Hid (Wf3 (plA acs s.put)) := by show Wf3 _; rw [plA_at hp2]; exact HPL.out _ (List.getElem_mem hp2)
      have HQ : Hid (∀ W1, Below W.heap.size W W1 → W1.cell? ⟨ga, off + s.draw * 8 + 1, none⟩ = some (.int .i64 (plA acs s.draw).1) ∧ W1.cell? ⟨ga, off + s.draw * 8 + 2, none⟩ = some (.int .i64 (plA acs s.draw).2.1) ∧ W1.cell? ⟨ga, off + s.draw * 8 + 3, none⟩ = some (.int .i64 (plA acs s.draw).2.2)) := by
        intro W1 hb
        rw [plA_at hd]
        exact ⟨cell_later hb (hc 1 (by decide)), cell_later hb (hc 2 (by decide)), cell_later hb (hc 3 (by decide))⟩
      have HQ2 : Hid (∀ W1, Below W.heap.size W W1 → W1.cell? ⟨ga, off + s.put * 8 + 1, none⟩ = some (.int .i64 (plA acs s.put).1) ∧ W1.cell? ⟨ga, off + s.put * 8 + 2, none⟩ = some (.int .i64 (plA acs s.put).2.1) ∧ W1.cell? ⟨ga, off + s.put * 8 + 3, none⟩ = some (.int .i64 (plA acs s.put).2.2)) := by
        intro W1 hb
        rw [plA_at hp2]
        exact ⟨cell_later hb (hc2 1 (by decide)), cell_later hb (hc2 2 (by decide)), cell_later hb (hc2 3 (by decide))⟩
      have HRC : Hid (rchS acs m s = match atI m (plA acs s.draw) with | none => m | some came => if (s.draw : Int) < came then m else match atI m (plA acs s.put) with | none => m ++ [(plA acs s.put, (s.put : Int))] | some _ => m) := rfl
      clear hc hc2 hI hk hpre
      generalize plA acs s.draw = q at *
      generalize plA acs s.put = q2 at *
      have HLK : Hid (∀ W1, Below W.heap.size W W1 → (Instr.lookup 59 (.map (some (w.heap.size + 2))) (.agg #[.int .i64 q.1, .int .i64 q.2.1, .int .i64 q.2.2]) true).run Try.prog W1 = .ok (.tuple #[.int .i64 ((atI m q).getD 0), .bool (atI m q).isSome]) W1) := fun W1 hb => (HI.out.mp.next hb).look lawKP Try.underlying59 zeroI HWQ.out true
      have hdi : (s.draw : Int) < (acs.length : Int) := by omega
      have hpi : (s.put : Int) < (acs.length : Int) := by omega
      gi_wp2_with fail
      refine all_r l _ (by kernel_rfl) (fun ⟨_, _, h⟩ => by have h2 : (Exit.outgrown = Exit.normal ∧ _) := h; cases h2.1) [false, false, false, false, false, false, false, false, true, true, false, false, false, false, false, false, false, false, false, false, false, false, true, true, true, true, true, true, true, true, true, true, true, false, false, false, false, false, false, false, false, false, false, false, false, false, false, false, false, false, false, false, false, false, false, false, false, false, false, false, false, false]
        [([], [23], none), ([], [24], none), ([], [25], none), ([2], [26], none), ([1, 3], [27], none), ([4], [28], none), ([5], [29], none), ([0, 6], [30], none), ([7], [22], none), ([8], [31], none), ([8], [32], none), ([9], [8], none), ([10], [9], none)]
        (reV w.heap.size S g (w.heap.size + 2) ga off acs.length cap s q ((atI m q).getD 0) (atI m q).isSome) (fun _ _ => True) (by kernel_rfl) (by kernel_rfl) trivial ?_ ?_
      · refine ⟨?_, ?_, ?_, ?_, ?_, ?_, ?_, ?_, ?_, ?_, ?_, ?_, ?_, trivial⟩
        · intro f w1 hb hJ _ K hK
          have q0 := (KS.out.later hb).c 0 rfl
          simp only [over, overL, Nat.reduceAdd]
          go_simp
          exact hK _ _ ⟨_, by simp only [over, overL, Nat.reduceAdd]; rfl, rfl, hb, hJ, fun _ h => h⟩
        · intro f w1 hb hJ _ K hK
          have q0 := (KL.out.later hb).c 0 rfl
          simp only [over, overL, Nat.reduceAdd]
          go_simp
          exact hK _ _ ⟨_, by simp only [over, overL, Nat.reduceAdd]; rfl, rfl, hb, hJ, fun _ h => h⟩
        · intro f w1 hb hJ _ K hK
          simp only [over, overL, Nat.reduceAdd]
          go_simp
          exact hK _ _ ⟨_, by simp only [over, overL, Nat.reduceAdd]; rfl, rfl, hb, hJ, fun _ h => h⟩
        · intro f w1 hb hJ ⟨h25, _⟩ K hK
          replace h25 : f 25 = _ := h25
          have q0 := (KG.out.later hb).c 0 rfl
          simp only [over, overL, Nat.reduceAdd, h25]
          go_simp
          exact hK _ _ ⟨_, by simp only [over, overL, Nat.reduceAdd, h25]; rfl, rfl, hb, hJ, fun _ h => h⟩
        · intro f w1 hb hJ ⟨h24, h26, _⟩ K hK
          replace h24 : f 24 = _ := h24
          replace h26 : f 26 = _ := h26
          simp only [over, overL, Nat.reduceAdd, h24, h26]
          go_simp
          exact hK _ _ ⟨_, by simp only [over, overL, Nat.reduceAdd, h24, h26]; rfl, rfl, hb, hJ, fun _ h => h⟩
        · intro f w1 hb hJ ⟨h27, _⟩ K hK
          replace h27 : f 27 = _ := h27
          simp only [over, overL, Nat.reduceAdd, h27]
          go_simp
          exact hK _ _ ⟨_, by simp only [over, overL, Nat.reduceAdd, h27]; rfl, rfl, hb, hJ, fun _ h => h⟩
        · intro f w1 hb hJ ⟨h28, _⟩ K hK
          replace h28 : f 28 = _ := h28
          obtain ⟨q0, q1, q2⟩ := HQ.out w1 hb
          simp only [over, overL, Nat.reduceAdd, h28]
          go_simp
          exact hK _ _ ⟨_, by simp only [over, overL, Nat.reduceAdd, h28]; rfl, rfl, hb, hJ, fun _ h => h⟩
        · intro f w1 hb hJ ⟨h23, h29, _⟩ K hK
          replace h23 : f 23 = _ := h23
          replace h29 : f 29 = _ := h29
          have q0 := HLK.out w1 hb
          simp only [over, overL, Nat.reduceAdd, h23, h29]
          go_simp
          exact hK _ _ ⟨_, by simp only [over, overL, Nat.reduceAdd, h23, h29]; rfl, rfl, hb, hJ, fun _ h => h⟩
        · intro f w1 hb hJ ⟨h30, _⟩ K hK
          replace h30 : f 30 = _ := h30
          simp only [over, overL, Nat.reduceAdd, h30]
          go_simp
          exact hK _ _ ⟨_, by simp only [over, overL, Nat.reduceAdd, h30]; rfl, rfl, hb, hJ, fun _ h => h⟩
        · intro f w1 hb hJ ⟨h22, _⟩ K hK
          replace h22 : f 22 = _ := h22
          simp only [over, overL, Nat.reduceAdd, h22]
          go_simp
          exact hK _ _ ⟨_, by simp only [over, overL, Nat.reduceAdd, h22]; rfl, rfl, hb, hJ, fun _ h => h⟩
        · intro f w1 hb hJ ⟨h22, _⟩ K hK
          replace h22 : f 22 = _ := h22
          simp only [over, overL, Nat.reduceAdd, h22]
          go_simp
          exact hK _ _ ⟨_, by simp only [over, overL, Nat.reduceAdd, h22]; rfl, rfl, hb, hJ, fun _ h => h⟩
        · intro f w1 hb hJ ⟨h31, _⟩ K hK
          replace h31 : f 31 = _ := h31
          simp only [over, overL, Nat.reduceAdd, h31]
          go_simp
          exact hK _ _ ⟨_, by simp only [over, overL, Nat.reduceAdd, h31]; rfl, rfl, hb, hJ, fun _ h => h⟩
        · intro f w1 hb hJ ⟨h32, _⟩ K hK
          replace h32 : f 32 = _ := h32
          simp only [over, overL, Nat.reduceAdd, h32]
          go_simp
          exact hK _ _ ⟨_, by simp only [over, overL, Nat.reduceAdd, h32]; rfl, rfl, hb, hJ, fun _ h => h⟩
      · intro f w1 hb _ hv
        have h8 : f 8 = .int .i64 ((atI m q).getD 0) := hv.2.2.2.2.2.2.2.2.2.2.2.1
        have h9 : f 9 = .bool (atI m q).isSome := hv.2.2.2.2.2.2.2.2.2.2.2.2.1
        simp only [over, overL, Nat.reduceAdd, h8, h9]
        have HI1 : Hid (Re w S (some ⟨ga, off, none⟩) cap acs m w1) := HI.out.kpt HAL.out (Kpt.of_below (M := fun k => S < k) hb) (fun k e => e)
        have KB1 : Hid (Kpt (fun k => k = w.heap.size + 2) W w1) := Kpt.of_below hb
        have g0 := (KG.out.later hb).c 0 rfl
        have g1 := (KG.out.later hb).c 1 rfl
        have l0 := (KL.out.later hb).c 0 rfl
        have s0 := (KS.out.later hb).c 0 rfl
        obtain ⟨p0, p1, p2⟩ := HQ2.out w1 hb
        have hgl1 : g < w1.heap.size := Nat.lt_of_lt_of_le hgl hb.size
        have hSl1 : S < w1.heap.size := (KS.out.later hb).1
        have hgne : g ≠ w1.heap.size := by omega
        have hSne : S ≠ w1.heap.size := by omega
        clear hv h8 h9
        have HSN2 := HSN.out
        rw [HRC.out] at HSN2
        cases hq : atI m q with
        | none =>
          simp only [hq] at HSN2
          simp only [Option.isSome_none, Option.getD_none]
          have HS2 : Hid (_ = _) := HSN2
          clear hq HSN2
          gi_wp2
          refine ⟨KB1.out, ?_⟩
          rw [HS2.out]
          exact HI1.out
        | some came =>
          by_cases hcd : (s.draw : Int) < came
          · simp only [hq, if_pos hcd] at HSN2
            simp only [Option.isSome_some, Option.getD_some]
            have HS2 : Hid (_ = _) := HSN2
            clear hq HSN2
            gi_wp2
            refine ⟨KB1.out, ?_⟩
            rw [HS2.out]
            exact HI1.out
          · simp only [hq, if_neg hcd] at HSN2
            simp only [Option.isSome_some, Option.getD_some]
            clear hq
            have ba : Below w1.heap.size w1 (w1.alloc (pobj q2)) := (Below.refl _ _).alloc (Nat.le_refl _) _
            have HI2 : Hid (Re w S (some ⟨ga, off, none⟩) cap acs m (w1.alloc (pobj q2))) := HI1.out.kpt HAL.out (Kpt.of_below (M := fun k => S < k) ba) (fun k e => e)
            have KB2 : Hid (Kpt (fun k => k = w.heap.size + 2) W (w1.alloc (pobj q2))) := KB1.out.trans (Kpt.of_below ba)
            have hlk2 := HI2.out.mp.look lawKP (t := 59) Try.underlying59 zeroI HWP.out true
            simp only [if_true] at hlk2
            clear ba
            cases hq2 : atI m q2 with
            | some v2 =>
              simp only [hq2] at HSN2
              simp only [hq2, Option.isSome_some, Option.getD_some] at hlk2
              have HS2 : Hid (_ = _) := HSN2
              clear hq2 HSN2
              gi_wp2
              refine ⟨KB2.out, ?_⟩
              rw [HS2.out]
              exact HI2.out
            | none =>
              obtain ⟨w5, hr5, hm5, hg5⟩ := HI2.out.mp.put lawKP (t := 59) Try.underlying59 HWP.out (s.put : Int) (by omega)
              have kb5 : Kpt (fun k => k = w.heap.size + 2) (w1.alloc (pobj q2)) w5 := Kpt.grown hg5 fun k e => by injection e with e; exact e.symm
              have HI5 : Hid (Re w S (some ⟨ga, off, none⟩) cap acs (m ++ [(q2, (s.put : Int))]) w5) := HI2.out.put HAL.out kb5 (by rw [← putI_new hq2]; exact hm5)
              have HK5 : Hid (Kpt (fun k => k = w.heap.size + 2) W w5) := KB2.out.trans kb5
              simp only [hq2] at HSN2
              simp only [hq2, Option.isSome_none, Option.getD_none] at hlk2
              have HS2 : Hid (_ = _) := HSN2
              clear hq2 hm5 hg5 kb5 HSN2
              gi_wp2
              refine ⟨HK5.out, ?_⟩
              rw [HS2.out]
              exact HI5.out
    · intro xs W hS hI hs hd
      subst hS
      have hlm : (reachM acs p).length ≤ 100000000 := by
        have h1 := rch_len acs p (shares acs)
        have h3 := shares_most hl
        unfold reachM
        omega
      have HI : Hid (Re w S ao cap acs (reachM acs p) W) := hI
      clear hI
      have s0 := HI.out.ks.c 0 rfl
      have hb1 : Below W.heap.size W (W.alloc (.cells #[.map (some (w.heap.size + 2))] 59)) := (Below.refl _ _).alloc (Nat.le_refl _) _
      have HSK : Hid _ := sortedKeys_any W.heap.size (w.heap.size + 2) (reachM acs p) (W.alloc (.cells #[.map (some (w.heap.size + 2))] 59)) ((Bk.new W [.map (some (w.heap.size + 2))] 59 W.heap.size rfl).c 0 rfl) (HI.out.mp.next hb1) hlm
      go_wp2_with (first
        | (go_at_call 18; refine (keys_make (w.heap.size + 2) _).mono ?_; rintro e w3 ⟨rfl, rfl⟩)
        | (go_at_call 17; refine Calls.mono HSK.out ?_; rintro e w4 ⟨sr, aoS, capS, rfl, hp1, hs1, hrd, hb4, had⟩))
      have hd4 : w4.heap[S + 2]? = some (.deferred (some [])) := (hb4.block _ (by simp; omega)).trans ((hb1.block _ (by omega)).trans (by rw [← hsR]; exact hd))
      refine leave_mark hd4 (v := .tuple #[.slice aoS sr.length capS, .int .i64 0]) (by simp [results, Try.results8, go_sem]) ?_
      have hpk := Kpt.putObj (fun k => k = S + 2) w4 (S + 2) (.deferred none) rfl
      have hbw : Below w.heap.size w w4 := HI.out.below.trans ((hb1.trans (hb4.mono (by simp))).mono HI.out.below.size)
      refine ⟨hbw.trans (hpk.below hbw.size (fun k e => by omega)), .inr ⟨hl, sr, aoS, capS, rfl, hp1, hs1, hrd.kpt hpk (fun ad e => by have := had ad e; simp at this; omega), fun ad e => by have h1 := had ad e; have h2 := HI.out.below.size; simp at h1; omega⟩⟩
end Go.Proofs.Ytgbnjgenopdmfaa
