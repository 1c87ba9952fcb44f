/- flow.Pairs walked. -/
import Derived.Test.YtgbnjgenopdmfaaSeqH
import Derived.Test.YtgbnjgenopdmfaaLY
import Derived.Test.YtgbnjgenopdmfaaLQ
namespace Go.Proofs.Ytgbnjgenopdmfaa
open Go.RowKit Go.Maps Go.ChangeMaps

set_option linter.unusedVariables false in
def paV (b g ga off n cap st : Nat) (s : Shr) (q q2 : Plc) (old : Int) (i : Nat) (l : List Value) (w : World) : Prop :=
  match i, l with
  | 0, [v] => v = .map (some b)
  | 1, [v] => v = .slice (some ⟨ga, off, none⟩) n cap
  | 2, [v] => v = .pointer (some ⟨g, 0, none⟩)
  | 3, [v] => v = .int .i64 s.draw
  | 4, [v] => v = .pointer (some ⟨ga, off + s.draw * 8, none⟩)
  | 5, [v] => v = .pointer (some ⟨ga, off + s.draw * 8 + 1, none⟩)
  | 6, [v] => v = .agg #[.int .i64 q.1, .int .i64 q.2.1, .int .i64 q.2.2]
  | 7, [v] => v = .slice (some ⟨ga, off, none⟩) n cap
  | 8, [v] => v = .pointer (some ⟨g, 1, none⟩)
  | 9, [v] => v = .int .i64 s.put
  | 10, [v] => v = .pointer (some ⟨ga, off + s.put * 8, none⟩)
  | 11, [v] => v = .pointer (some ⟨ga, off + s.put * 8 + 1, none⟩)
  | 12, [v] => v = .agg #[.int .i64 q2.1, .int .i64 q2.2.1, .int .i64 q2.2.2]
  | 13, [v] => v = .agg #[.int .i64 q.1, .int .i64 q.2.1, .int .i64 q.2.2, .int .i64 q2.1, .int .i64 q2.2.1, .int .i64 q2.2.2]
  | 14, [v] => v = .int .i64 old
  | 15, [v] => v = .pointer (some ⟨g, 2, none⟩)
  | 16, [v] => v = .int .i64 s.vol
  | 17, [v] => v = .int .i64 (old + s.vol)
  | 18, [v] => v = .tuple #[.int .i64 old, .int .i64 st]
  | 19, [v] => v = .int .i64 st
  | _, _ => True
/-- The map's block ahead of the last write, and behind it. -/
def paJ (W : World) (b : Nat) (o1 : Obj) (m2 : List (Rt × Int)) (fin : Bool) (f : Nat → Value) (w : World) : Prop :=
  Kpt (fun k => k = b) W w ∧ match fin with
    | false => (f 34 = undef ∧ w.heap[b]? = W.heap[b]?) ∨ w.heap[b]? = some o1
    | true => WI keR w b m2
theorem kpt_setBlock (w : World) (b : Nat) (o : Obj) : Kpt (fun k => k = b) w (setBlock w b o) := by
  refine ⟨rfl, rfl, rfl, by simp [setBlock], fun k hk hn => ?_⟩
  simp only [setBlock]
  simp [Ne.symm hn]
theorem heap_setBlock_at {w : World} {b : Nat} {o : Obj} (h : b < w.heap.size) : (setBlock w b o).heap[b]? = some o := by
  simp [setBlock, h]
theorem wrap_at {x : Int} (h : -9223372036854775808 ≤ x) (h2 : x ≤ 9223372036854775807) : IntKind.i64.wrap x = x := by
  rw [IntWalk.i64_left]; exact IntWalk.wrap64_in _ ⟨h, h2⟩
theorem perm_keys {a m : List (Rt × Int)} (ho : m.Pairwise fun x y => x.1 ≠ y.1) (hk : (a.map (·.1)).Perm (m.map (·.1))) (hs : ∀ x ∈ a, x ∈ m) : a.Perm m := by
  have nm : (m.map (·.1)).Nodup := List.pairwise_map.2 ho
  have na : (a.map (·.1)).Nodup := (List.Perm.nodup_iff hk).2 nm
  have nd : ∀ {l : List (Rt × Int)}, (l.map (·.1)).Nodup → l.Nodup := fun h => List.Pairwise.imp (fun {x y} hxy (e : x = y) => hxy (by rw [e])) (List.pairwise_map.1 h)
  refine (List.perm_ext_iff_of_nodup (nd na) (nd nm)).2 fun x => ⟨hs x, fun hx => ?_⟩
  obtain ⟨y, hy, e⟩ := List.mem_map.1 (hk.mem_iff.2 (List.mem_map.2 ⟨x, hx, rfl⟩))
  have h1 := (atI_mem ho).1 (show (y.1, y.2) ∈ m from hs y hy)
  have h2 := (atI_mem ho).1 (show (x.1, x.2) ∈ m from hx)
  rw [e, h2] at h1
  injection h1 with h1
  have : y = x := Prod.ext e h1.symm
  rw [← this]
  exact hy
theorem sorted_is {l m : List (Rt × Int)} {P : Prs} (ho : m.Pairwise fun x y => x.1 ≠ y.1) (hp : l.Perm m) (hs : l.Pairwise fun x y => rltB y.1 x.1 = false) (hP : RRising P) (h : ∀ r, atI m r = atP P r) : l = P := by
  have hol : l.Pairwise fun x y => x.1 ≠ y.1 := (hp.pairwise_iff (fun {x y} h => Ne.symm h)).2 ho
  have hr : RRising l := (hol.and hs).imp fun {x y} h => (rlt_total h.1).resolve_right (by rw [h.2]; decide)
  refine prs_unique hr hP fun r => Option.ext fun v => ?_
  rw [← h, ← atP_mem hr, ← atI_mem ho]
  exact hp.mem_iff
theorem sumP_one {l : Prs} (h : ∀ x ∈ l, 0 ≤ x.2) : 0 ≤ sumP l ∧ ∀ x ∈ l, x.2 ≤ sumP l := by
  induction l with
  | nil => simp [sumP]
  | cons y q ih =>
    have h1 := ih fun x hx => h x (by simp [hx])
    have h2 := h y (by simp)
    refine ⟨by simp only [sumP]; omega, fun x hx => ?_⟩
    simp only [sumP]
    rcases List.mem_cons.1 hx with rfl | hx
    · omega
    · have := h1.2 x hx; omega
/-- What a route has so far. -/
theorem pair_in {acs : List Acn} {pre : List Shr} (hl : acs.length ≤ 3000) (h : pre <+: shares acs) (r : Rt) : 0 ≤ (atP (pairsF acs pre) r).getD 0 ∧ (atP (pairsF acs pre) r).getD 0 ≤ 9000000000000000 := by
  have hok : ∀ s ∈ pre, 1 ≤ s.vol := fun s hs => (shares_ok acs s (h.subset hs)).2.2.2.1
  have h1 := vols_pre hl h
  have h2 := sumP_one (l := pairsF acs pre) fun x hx => by have := (pairsF_mem acs pre hok x hx).1; omega
  rw [pairsF_sum] at h2
  cases e : atP (pairsF acs pre) r with
  | none => simp
  | some v =>
    have hm := (atP_mem (pairsF_rising acs pre)).2 e
    have h3 := h2.2 _ hm
    have h4 := (pairsF_mem acs pre hok _ hm).1
    simp at h3 h4 ⊢
    omega
structure Pa (w : World) (ao : Option Addr) (cap : Nat) (acs : List Acn) (m : List (Rt × Int)) (W : World) : Prop where
  mp : WI keR W (w.heap.size + 1) m
  kl : Bk w.heap.size [.slice ao acs.length cap] W
  ks : Bk (w.heap.size + 2) [.map (some (w.heap.size + 1))] W
  acn : Acs W ao acs
  below : Below w.heap.size w W
theorem Pa.kpt {w : World} {ao : Option Addr} {cap : Nat} {acs : List Acn} {m : List (Rt × Int)} {W W1 : World} {M : Nat → Prop} (h : Pa w ao cap acs m W) (hal : ∀ ad, ao = some ad → acs ≠ [] → ad.block < w.heap.size) (hk : Kpt M W W1) (hM : ∀ k, M k → w.heap.size + 2 < k) : Pa w ao cap acs m W1 :=
  ⟨h.mp.same (hk.block _ h.mp.lt (fun e => by have := hM _ e; omega)), h.kl.same hk.size (hk.block _ h.kl.1 (fun e => by have := hM _ e; omega)), h.ks.same hk.size (hk.block _ h.ks.1 (fun e => by have := hM _ e; omega)),
   acs_kept h.acn hk (fun ad e hne hm => by have := hM _ hm; have := hal ad e hne; omega), h.below.trans (hk.below h.below.size (fun k e => by have := hM _ e; omega))⟩
theorem Pa.put {w : World} {ao : Option Addr} {cap : Nat} {acs : List Acn} {m m1 : List (Rt × Int)} {W W1 : World} (h : Pa w ao cap acs m W) (hal : ∀ ad, ao = some ad → acs ≠ [] → ad.block < w.heap.size) (hk : Kpt (fun k => k = w.heap.size + 1) W W1) (hm1 : WI keR W1 (w.heap.size + 1) m1) : Pa w ao cap acs m1 W1 :=
  ⟨hm1, h.kl.same hk.size (hk.block _ h.kl.1 (by omega)), h.ks.same hk.size (hk.block _ h.ks.1 (by omega)),
   acs_kept h.acn hk (fun ad e hne hm => by have := hal ad e hne; omega), h.below.trans (hk.below h.below.size (fun k e => by omega))⟩
/-- The sums so far. -/
def PaI (w : World) (ao : Option Addr) (cap : Nat) (acs : List Acn) (pre : List Shr) (W : World) : Prop := ∃ m, Pa w ao cap acs m W ∧ (∀ r, atI m r = atP (pairsF acs pre) r) ∧ m.length ≤ pre.length
theorem putI_len {m : List (Rt × Int)} {p : Rt} {v : Int} : (putI m p v).length ≤ m.length + 1 := by
  unfold putI
  have := List.length_filter_le (fun x : Rt × Int => decide (x.1 ≠ p)) m
  simp at this ⊢
  omega
set_option maxHeartbeats 6400000 in
set_option maxRecDepth 100000 in
theorem pairs_any (ao : Option Addr) (cap : Nat) (acs : List Acn) (w : World) (hA : Acs w ao acs) (hal : ∀ ad, ao = some ad → acs ≠ [] → ad.block < w.heap.size) (hla : acs.length ≤ 9223372036854775807) (hpl : ∀ a ∈ acs, Wf3 a.pl) :
    Calls Try.prog 6 #[.slice ao acs.length cap] w fun e w' => Below w.heap.size w w' ∧ ((3000 < acs.length ∧ e = .returned (.tuple #[.slice none 0 0, .int .i64 7])) ∨
      (acs.length ≤ 3000 ∧ ∃ aoS capS, e = .returned (.tuple #[.slice aoS (pairsR acs).length capS, .int .i64 0]) ∧ RdR encPr w' aoS (pairsR acs))) := by
  refine (callsIn_wide (n := 3)).1 (callsIn_of_wp_marks Try.func6 rfl trivial (wpIn_wide.2 ?_) rfl)
  simp only [Try.ntmps6, List.size_toArray, List.length_cons, List.length_nil, Nat.reduceAdd, Nat.reduceSub, Array.replicate_succ, Array.replicate_zero, List.push_toArray, List.append_toArray, List.nil_append, List.cons_append]
  by_cases hbig : 3000 < acs.length
  · go_wp2
    refine leave_plain (v := .tuple #[.slice none 0 0, .int .i64 7]) (by simp [results, Try.results6, go_sem]) ⟨?_, .inl ⟨hbig, rfl⟩⟩
    exact (Below.refl _ _).alloc (Nat.le_refl _) _
  · have hl : acs.length ≤ 3000 := by omega
    have HA : Hid (Acs w ao acs) := hA
    have HAL : Hid (∀ ad, ao = some ad → acs ≠ [] → ad.block < w.heap.size) := hal
    have HPL : Hid (∀ a ∈ acs, Wf3 a.pl) := hpl
    clear hA hal hpl
    have hmm := @run_makeMap Try.prog
    go_wp2_with (go_at_call 14; refine (shares_make ao acs.length cap _).mono ?_; rintro e w3 ⟨rfl, rfl⟩)
    obtain ⟨wR, hwR⟩ : ∃ wR, wR = ((((w.alloc (.cells #[.slice ao acs.length cap] 22)).alloc (.map #[] 0)).alloc (.cells #[.map (some (w.heap.size + 1))] 49)).alloc (.cells #[.slice ao acs.length cap] 22)) := ⟨_, rfl⟩
    have hsR : wR.heap.size = w.heap.size + 4 := by rw [hwR]; simp
    have b1 : Below w.heap.size w (w.alloc (.cells #[.slice ao acs.length cap] 22)) := (Below.refl _ _).alloc (Nat.le_refl _) _
    have HPA : Hid (PaI w ao cap acs [] wR) := by
      show PaI _ _ _ _ _ _
      have a3 : ∀ (x : World) (o : Obj), Below x.heap.size x (x.alloc o) := fun x o => (Below.refl _ _).alloc (Nat.le_refl _) _
      have k1 := Bk.new w [.slice ao acs.length cap] 22 w.heap.size rfl
      have m1 := WI.made keR (w.alloc (.cells #[.slice ao acs.length cap] 22))
      have k2 := Bk.new ((w.alloc (.cells #[.slice ao acs.length cap] 22)).alloc (.map #[] 0)) [.map (some (w.heap.size + 1))] 49 (w.heap.size + 2) (by simp)
      rw [World.size_alloc] at m1
      rw [hwR]
      have bw := below_on (below_on (below_on b1 (a3 _ (.map #[] 0))) (a3 _ (.cells #[.map (some (w.heap.size + 1))] 49))) (a3 _ (.cells #[.slice ao acs.length cap] 22))
      exact ⟨[], ⟨(m1.next (a3 _ _)).next (a3 _ _), ((k1.later (a3 _ _)).later (a3 _ _)).later (a3 _ _), k2.later (a3 _ _), HA.out.next bw, bw⟩, fun r => rfl, by simp⟩
    have KC : Hid (Bk (w.heap.size + 3) [.slice ao acs.length cap] wR) := by
      show Bk _ _ _
      rw [hwR]
      exact Bk.new _ [.slice ao acs.length cap] 22 (w.heap.size + 3) (by simp)
    rw [← hwR]
    clear hwR hmm HA b1
    refine range_gen (n := 3) (gf := 23) (lb := #[ptr (w.heap.size + 3)]) rfl (fun args w => en_S args w) (fun k => w.heap.size + 6 ≤ k) (fun k => k = w.heap.size + 1)
      (· <+: shares acs) (· = shares acs) (fun s : Shr => #[shv s]) (fun _ => rfl) ?_ (by rw [hsR]; exact fun k h => h) (by rw [hsR]; omega) (by rw [hsR]; omega) (fun pre W => PaI w ao cap acs pre W) ?_ HPA.out
      (fun s a1 A => ∃ g, w.heap.size + 6 ≤ g ∧ a1 = { tmps := #[.slice ao acs.length cap, ptr w.heap.size, .slice none 0 0, .int .i64 0, ptr (w.heap.size + 2), ptr g, undef, undef, undef, .slice ao acs.length cap, .int .i64 acs.length, .bool (decide ((3000 : Int) < (acs.length : Int))), .map (some (w.heap.size + 1)), .slice ao acs.length cap, .func (.func 23) #[] #[ptr (w.heap.size + 3)], shv s, undef, undef, undef, undef, undef, undef, undef, undef, undef, undef, undef, undef, undef, undef, undef, undef, undef, undef, undef, undef, undef, undef, undef, undef, undef, undef, undef, undef, undef, undef, undef, undef, undef, undef, undef, undef, undef, undef, undef], defers := [] } ∧ Bk g [.int .i64 s.draw, .int .i64 s.put, .int .i64 s.vol] A) ?_ ?_ ?_ ?_
    · intro W hb hs
      have e : W.heap.size = w.heap.size + 6 := by rw [hs, hsR]
      obtain ⟨m, hre, _⟩ := HPA.out
      have := shares_all 2 ao cap acs (w.heap.size + 3) (w.heap.size + 1) (wR.heap.size + 1) W ((KC.out.later hb).c 0 rfl) (by omega) (hre.acn.next hb) hl (by omega) (fun ad e hne => by have := HAL.out ad e hne; omega)
      rw [e] at this
      exact this
    · rintro s A B ⟨m, h, h2⟩ hk
      exact ⟨m, h.kpt HAL.out hk (fun k e => by omega), h2⟩
    · rintro s a1 A B ⟨g, h1, h2, h3⟩ hk
      exact ⟨g, h1, h2, h3.same hk.size (hk.block _ h3.1 (by omega))⟩
    · intro l pre s W K hI hpre hs hK
      have HKK : Hid _ := hK
      clear hK
      have K1 : Hid (Bk W.heap.size [.int .i64 s.draw, .int .i64 s.put, .int .i64 s.vol] (W.alloc (.cells #[.int .i64 s.draw, .int .i64 s.put, .int .i64 s.vol] 54))) := Bk.new W [.int .i64 s.draw, .int .i64 s.put, .int .i64 s.vol] 54 W.heap.size rfl
      refine region_round l _ (by rintro ⟨a, w, h⟩; exact h) (by kernel_rfl) ?_
      go_wp2
      exact HKK.out _ _ ⟨W.heap.size, by omega, rfl, K1.out⟩ ((Below.refl _ _).alloc (Nat.le_refl _) _)
    · rintro l pre s a1 W ⟨m, hI, hat, hml⟩ hpre hs ⟨g, hg, rfl, hk⟩
      have hok := shares_ok acs s (hpre.subset (by simp))
      have hpf : pre <+: shares acs := (List.prefix_append pre [s]).trans hpre
      have hlm : m.length ≤ 10000000 := by
        have h2 := hpf.length_le
        have h3 := shares_most hl
        omega
      obtain ⟨hd, hp2, _, hv1, hv2⟩ := hok
      have HIN := (show Hid (0 ≤ (atI m (rtA acs s)).getD 0 ∧ (atI m (rtA acs s)).getD 0 ≤ 9000000000000000) by show _ ∧ _; rw [hat]; exact pair_in hl hpf _)
      have HNX : Hid (∀ r, atI (putI m (rtA acs s) ((atI m (rtA acs s)).getD 0 + s.vol)) r = atP (pairsF acs (pre ++ [s])) r) := by
        intro r
        obtain ⟨D, _, hrd⟩ := hI.mp
        rw [atI_put hrd.once, pairsF_snoc, atP_add (pairsF_rising acs pre), hat, hat]
      have HLN : Hid ((putI m (rtA acs s) ((atI m (rtA acs s)).getD 0 + s.vol)).length ≤ (pre ++ [s]).length) := by
        show _ ≤ _
        have := putI_len (m := m) (p := rtA acs s) (v := (atI m (rtA acs s)).getD 0 + s.vol)
        simp
        omega
      have HI : Hid (Pa w ao cap acs m W) := hI
      have HKG : Hid (Bk g [.int .i64 s.draw, .int .i64 s.put, .int .i64 s.vol] W) := hk
      obtain ⟨ga, off, rfl, hc⟩ := hI.acn.at hd
      obtain ⟨_, _, e9, hc2⟩ := hI.acn.at hp2
      injection e9 with e9
      injection e9 with e91 e92 e93
      subst e91 e92
      have hga : ga < w.heap.size := HAL.out _ rfl (fun e => by rw [e] at hd; simp at hd)
      have hWR : Wf6 (rtA acs s) := ⟨by show Wf3 (plA acs s.draw); rw [plA_at hd]; exact HPL.out _ (List.getElem_mem hd), by show Wf3 (plA acs s.put); rw [plA_at hp2]; exact HPL.out _ (List.getElem_mem hp2)⟩
      obtain ⟨st, o1, e1, e2, e3, e4⟩ := hI.mp.entryB lawKR (t := 49) Try.underlying49 zeroI hWR (by omega)
      have hlk := fun W1 (h : WI keR W1 (w.heap.size + 1) m) => h.look lawKR (t := 49) Try.underlying49 zeroI hWR false
      have HQ : Hid (∀ W1, Kpt (fun k => k = w.heap.size + 1) W W1 → W1.cell? ⟨ga, off + s.draw * 8 + 1, none⟩ = some (.int .i64 (plA acs s.draw).1) ∧ W1.cell? ⟨ga, off + s.draw * 8 + 2, none⟩ = some (.int .i64 (plA acs s.draw).2.1) ∧ W1.cell? ⟨ga, off + s.draw * 8 + 3, none⟩ = some (.int .i64 (plA acs s.draw).2.2)) := by
        intro W1 hk
        rw [plA_at hd]
        have hb := hk.block ga (by have := hI.below.size; omega) (by omega)
        exact ⟨(World.cell?_of_block (a := ⟨ga, _, none⟩) hb).trans (hc 1 (by decide)), (World.cell?_of_block (a := ⟨ga, _, none⟩) hb).trans (hc 2 (by decide)), (World.cell?_of_block (a := ⟨ga, _, none⟩) hb).trans (hc 3 (by decide))⟩
      have HQ2 : Hid (∀ W1, Kpt (fun k => k = w.heap.size + 1) W W1 → W1.cell? ⟨ga, off + s.put * 8 + 1, none⟩ = some (.int .i64 (plA acs s.put).1) ∧ W1.cell? ⟨ga, off + s.put * 8 + 2, none⟩ = some (.int .i64 (plA acs s.put).2.1) ∧ W1.cell? ⟨ga, off + s.put * 8 + 3, none⟩ = some (.int .i64 (plA acs s.put).2.2)) := by
        intro W1 hk
        rw [plA_at hp2]
        have hb := hk.block ga (by have := hI.below.size; omega) (by omega)
        exact ⟨(World.cell?_of_block (a := ⟨ga, _, none⟩) hb).trans (hc2 1 (by decide)), (World.cell?_of_block (a := ⟨ga, _, none⟩) hb).trans (hc2 2 (by decide)), (World.cell?_of_block (a := ⟨ga, _, none⟩) hb).trans (hc2 3 (by decide))⟩
      have HL : Hid (∀ W1, Kpt (fun k => k = w.heap.size + 1) W W1 → W1.cell? ⟨w.heap.size, 0, none⟩ = some (.slice (some ⟨ga, off, none⟩) acs.length cap)) := fun W1 hk => (HI.out.kl.same hk.size (hk.block _ HI.out.kl.1 (by omega))).c 0 rfl
      have HS : Hid (∀ W1, Kpt (fun k => k = w.heap.size + 1) W W1 → W1.cell? ⟨w.heap.size + 2, 0, none⟩ = some (.map (some (w.heap.size + 1)))) := fun W1 hk => (HI.out.ks.same hk.size (hk.block _ HI.out.ks.1 (by omega))).c 0 rfl
      have HG : Hid (∀ W1, Kpt (fun k => k = w.heap.size + 1) W W1 → W1.cell? ⟨g, 0, none⟩ = some (.int .i64 s.draw) ∧ W1.cell? ⟨g, 1, none⟩ = some (.int .i64 s.put) ∧ W1.cell? ⟨g, 2, none⟩ = some (.int .i64 s.vol)) := fun W1 hk => by
        have := HKG.out.same hk.size (hk.block _ HKG.out.1 (by omega))
        exact ⟨this.c 0 rfl, this.c 1 rfl, this.c 2 rfl⟩
      have HBL : Hid (∀ W1, Kpt (fun k => k = w.heap.size + 1) W W1 → w.heap.size + 1 < W1.heap.size) := fun W1 hk => Nat.lt_of_lt_of_le HI.out.mp.lt hk.size
      obtain ⟨old, hold⟩ : ∃ old, old = (atI m (rtA acs s)).getD 0 := ⟨_, rfl⟩
      obtain ⟨m2, hm2⟩ : ∃ m2, m2 = putI m (rtA acs s) (old + s.vol) := ⟨_, rfl⟩
      rw [← hold] at HIN HNX HLN e1 e2 e4
      rw [← hm2] at HNX HLN
      have HWR : Hid (IntKind.i64.wrap (old + s.vol) = old + s.vol) := wrap_at (by have := HIN.out; omega) (by have := HIN.out; omega)
      have HLK : Hid (∀ f W1, paJ W (w.heap.size + 1) o1 m2 false f W1 → (Instr.lookup 49 (.map (some (w.heap.size + 1))) (.agg #[.int .i64 (rtA acs s).1.1, .int .i64 (rtA acs s).1.2.1, .int .i64 (rtA acs s).1.2.2, .int .i64 (rtA acs s).2.1, .int .i64 (rtA acs s).2.2.1, .int .i64 (rtA acs s).2.2.2]) false).run Try.prog W1 = .ok (.int .i64 old) W1) := by
        intro f W1 hJ
        rcases hJ.2 with ⟨_, h⟩ | h
        · have := hlk W1 (HI.out.mp.same h)
          rw [← hold] at this
          exact this
        · exact e2 W1 h
      have HEN : Hid (∀ f W1, paJ W (w.heap.size + 1) o1 m2 false f W1 → (Instr.mapEntry 49 (.map (some (w.heap.size + 1))) (.agg #[.int .i64 (rtA acs s).1.1, .int .i64 (rtA acs s).1.2.1, .int .i64 (rtA acs s).1.2.2, .int .i64 (rtA acs s).2.1, .int .i64 (rtA acs s).2.2.1, .int .i64 (rtA acs s).2.2.2])).run Try.prog W1 = .ok (.tuple #[.int .i64 old, .int .i64 (st : Int)]) (setBlock W1 (w.heap.size + 1) o1)) := by
        intro f W1 hJ
        rcases hJ.2 with ⟨_, h⟩ | h
        · exact e1 W1 h
        · exact e4 W1 h
      have HST : Hid (∀ W1 : World, W1.heap[w.heap.size + 1]? = some o1 → ∃ o2, (Instr.entryStore 49 (.map (some (w.heap.size + 1))) (.int .i64 (st : Int)) (.int .i64 (old + s.vol))).run Try.prog W1 = .ok () (setBlock W1 (w.heap.size + 1) o2) ∧ WI keR (setBlock W1 (w.heap.size + 1) o2) (w.heap.size + 1) m2) := fun W1 h => by
        rw [hm2]
        exact e3 W1 (old + s.vol) h
      have HJ0 : Hid (paJ W (w.heap.size + 1) o1 m2 false (fun k => (((#[.slice (some ⟨ga, off, none⟩) acs.length cap, ptr w.heap.size, .slice none 0 0, .int .i64 0, ptr (w.heap.size + 2), ptr g, undef, undef, undef, .slice (some ⟨ga, off, none⟩) acs.length cap, .int .i64 acs.length, .bool (decide ((3000 : Int) < (acs.length : Int))), .map (some (w.heap.size + 1)), .slice (some ⟨ga, off, none⟩) acs.length cap, .func (.func 23) #[] #[ptr (w.heap.size + 3)], shv s, undef, undef, undef, undef, undef, undef, undef, undef, undef, undef, undef, undef, undef, undef, undef, undef, undef, undef, undef, undef, undef, undef, undef, undef, undef, undef, undef, undef, undef, undef, undef, undef, undef, undef, undef, undef, undef, undef, undef] : Array Value).toList)[k]?).getD undef) W.drew) := ⟨⟨rfl, rfl, rfl, Nat.le_refl _, fun _ _ _ => rfl⟩, .inl ⟨rfl, rfl⟩⟩
      have hdi : (s.draw : Int) < (acs.length : Int) := by omega
      have hpi : (s.put : Int) < (acs.length : Int) := by omega
      clear hc hc2 hI hk hpre hpf hat hml e1 e2 e3 e4 hlk hold hm2 hWR hga HKG
      simp only [rtA] at *
      generalize plA acs s.draw = q at *
      generalize plA acs s.put = q2 at *
      gi_wp2_with fail
      refine all_rH (wB := w) l _ (by kernel_rfl) (fun ⟨_, _, h⟩ => by have h2 : (Exit.outgrown = Exit.normal ∧ _) := h; cases h2.1) 20 [false, false, false, false, false, false, false, false, false, false, false, false, false, false, false, false, true, true, true, true, true, true, true, true, true, true, true, true, true, true, true, true, true, true, true, true, false, false, false, false, false, false, false, false, false, false, false, false, false, false, false, false, false, false, false]
        [([], [16], none), ([], [17], none), ([], [18], none), ([2], [19], none), ([1, 3], [20], none), ([4], [21], none), ([5], [22], none), ([], [23], none), ([], [24], none), ([8], [25], none), ([7, 9], [26], none), ([10], [27], none), ([11], [28], none), ([6, 12], [29], none), ([0, 13], [30], none), ([], [31], none), ([15], [32], none), ([14, 16], [33], none), ([0, 13], [34], none), ([18], [35], none), ([0, 19, 17, 18], [], none)]
        (paV (w.heap.size + 1) g ga off acs.length cap st s q q2 old) (paJ W (w.heap.size + 1) o1 m2) (by kernel_rfl) (by kernel_rfl) (by kernel_rfl) HI.out.below HJ0.out ?_ ?_
      · refine ⟨?_, ?_, ?_, ?_, ?_, ?_, ?_, ?_, ?_, ?_, ?_, ?_, ?_, ?_, ?_, ?_, ?_, ?_, ?_, ?_, ?_, trivial⟩
        · intro f w1 hb hJ _ K hK
          have q0 := HS.out w1 hJ.1
          simp only [over, overL, Nat.reduceAdd]
          go_simp
          exact hK _ _ ⟨_, by simp only [over, overL, Nat.reduceAdd]; rfl, rfl, hb, hJ, fun _ h => h⟩
        · intro f w1 hb hJ _ K hK
          have q0 := HL.out w1 hJ.1
          simp only [over, overL, Nat.reduceAdd]
          go_simp
          exact hK _ _ ⟨_, by simp only [over, overL, Nat.reduceAdd]; rfl, rfl, hb, hJ, fun _ h => h⟩
        · intro f w1 hb hJ _ K hK
          simp only [over, overL, Nat.reduceAdd]
          go_simp
          exact hK _ _ ⟨_, by simp only [over, overL, Nat.reduceAdd]; rfl, rfl, hb, hJ, fun _ h => h⟩
        · intro f w1 hb hJ ⟨h18, _⟩ K hK
          replace h18 : f 18 = _ := h18
          have q0 := (HG.out w1 hJ.1).1
          simp only [over, overL, Nat.reduceAdd, h18]
          go_simp
          exact hK _ _ ⟨_, by simp only [over, overL, Nat.reduceAdd, h18]; rfl, rfl, hb, hJ, fun _ h => h⟩
        · intro f w1 hb hJ ⟨h17, h19, _⟩ K hK
          replace h17 : f 17 = _ := h17
          replace h19 : f 19 = _ := h19
          simp only [over, overL, Nat.reduceAdd, h17, h19]
          go_simp
          exact hK _ _ ⟨_, by simp only [over, overL, Nat.reduceAdd, h17, h19]; rfl, rfl, hb, hJ, fun _ h => h⟩
        · intro f w1 hb hJ ⟨h20, _⟩ K hK
          replace h20 : f 20 = _ := h20
          simp only [over, overL, Nat.reduceAdd, h20]
          go_simp
          exact hK _ _ ⟨_, by simp only [over, overL, Nat.reduceAdd, h20]; rfl, rfl, hb, hJ, fun _ h => h⟩
        · intro f w1 hb hJ ⟨h21, _⟩ K hK
          replace h21 : f 21 = _ := h21
          obtain ⟨q0, q1, q2⟩ := HQ.out w1 hJ.1
          simp only [over, overL, Nat.reduceAdd, h21]
          go_simp
          exact hK _ _ ⟨_, by simp only [over, overL, Nat.reduceAdd, h21]; rfl, rfl, hb, hJ, fun _ h => h⟩
        · intro f w1 hb hJ _ K hK
          have q0 := HL.out w1 hJ.1
          simp only [over, overL, Nat.reduceAdd]
          go_simp
          exact hK _ _ ⟨_, by simp only [over, overL, Nat.reduceAdd]; rfl, rfl, hb, hJ, fun _ h => h⟩
        · intro f w1 hb hJ _ K hK
          simp only [over, overL, Nat.reduceAdd]
          go_simp
          exact hK _ _ ⟨_, by simp only [over, overL, Nat.reduceAdd]; rfl, rfl, hb, hJ, fun _ h => h⟩
        · intro f w1 hb hJ ⟨h24, _⟩ K hK
          replace h24 : f 24 = _ := h24
          have q0 := (HG.out w1 hJ.1).2.1
          simp only [over, overL, Nat.reduceAdd, h24]
          go_simp
          exact hK _ _ ⟨_, by simp only [over, overL, Nat.reduceAdd, h24]; rfl, rfl, hb, hJ, fun _ h => h⟩
        · intro f w1 hb hJ ⟨h23, h25, _⟩ K hK
          replace h23 : f 23 = _ := h23
          replace h25 : f 25 = _ := h25
          simp only [over, overL, Nat.reduceAdd, h23, h25]
          go_simp
          exact hK _ _ ⟨_, by simp only [over, overL, Nat.reduceAdd, h23, h25]; rfl, rfl, hb, hJ, fun _ h => h⟩
        · intro f w1 hb hJ ⟨h26, _⟩ K hK
          replace h26 : f 26 = _ := h26
          simp only [over, overL, Nat.reduceAdd, h26]
          go_simp
          exact hK _ _ ⟨_, by simp only [over, overL, Nat.reduceAdd, h26]; rfl, rfl, hb, hJ, fun _ h => h⟩
        · intro f w1 hb hJ ⟨h27, _⟩ K hK
          replace h27 : f 27 = _ := h27
          obtain ⟨q0, q1, q2⟩ := HQ2.out w1 hJ.1
          simp only [over, overL, Nat.reduceAdd, h27]
          go_simp
          exact hK _ _ ⟨_, by simp only [over, overL, Nat.reduceAdd, h27]; rfl, rfl, hb, hJ, fun _ h => h⟩
        · intro f w1 hb hJ ⟨h22, h28, _⟩ K hK
          replace h22 : f 22 = _ := h22
          replace h28 : f 28 = _ := h28
          simp only [over, overL, Nat.reduceAdd, h22, h28]
          go_simp
          exact hK _ _ ⟨_, by simp only [over, overL, Nat.reduceAdd, h22, h28]; rfl, rfl, hb, hJ, fun _ h => h⟩
        · intro f w1 hb hJ ⟨h16, h29, _⟩ K hK
          replace h16 : f 16 = _ := h16
          replace h29 : f 29 = _ := h29
          have q0 := HLK.out f w1 hJ
          simp only [over, overL, Nat.reduceAdd, h16, h29]
          go_simp
          exact hK _ _ ⟨_, by simp only [over, overL, Nat.reduceAdd, h16, h29]; rfl, rfl, hb, hJ, fun _ h => h⟩
        · intro f w1 hb hJ _ K hK
          simp only [over, overL, Nat.reduceAdd]
          go_simp
          exact hK _ _ ⟨_, by simp only [over, overL, Nat.reduceAdd]; rfl, rfl, hb, hJ, fun _ h => h⟩
        · intro f w1 hb hJ ⟨h31, _⟩ K hK
          replace h31 : f 31 = _ := h31
          have q0 := (HG.out w1 hJ.1).2.2
          simp only [over, overL, Nat.reduceAdd, h31]
          go_simp
          exact hK _ _ ⟨_, by simp only [over, overL, Nat.reduceAdd, h31]; rfl, rfl, hb, hJ, fun _ h => h⟩
        · intro f w1 hb hJ ⟨h30, h32, _⟩ K hK
          replace h30 : f 30 = _ := h30
          replace h32 : f 32 = _ := h32
          have q0 : IntKind.i64.wrap (old + s.vol) = old + s.vol := HWR.out
          simp only [over, overL, Nat.reduceAdd, h30, h32]
          go_simp
          exact hK _ _ ⟨_, by simp only [over, overL, Nat.reduceAdd, h30, h32]; rfl, rfl, hb, hJ, fun _ h => h⟩
        · intro f w1 hb hJ ⟨h16, h29, _⟩ K hK
          replace h16 : f 16 = _ := h16
          replace h29 : f 29 = _ := h29
          have q0 := HEN.out f w1 hJ
          simp only [over, overL, Nat.reduceAdd, h16, h29]
          go_simp
          exact hK _ _ ⟨_, by simp only [over, overL, Nat.reduceAdd, h16, h29]; rfl, rfl, hb.trans ((kpt_setBlock w1 _ o1).below hb.size (fun k e => by omega)), ⟨hJ.1.trans (kpt_setBlock w1 _ o1), .inr (heap_setBlock_at (HBL.out w1 hJ.1))⟩, fun _ h => h⟩
        · intro f w1 hb hJ ⟨h34, _⟩ K hK
          replace h34 : f 34 = _ := h34
          simp only [over, overL, Nat.reduceAdd, h34]
          go_simp
          exact hK _ _ ⟨_, by simp only [over, overL, Nat.reduceAdd, h34]; rfl, rfl, hb, hJ, fun _ h => h⟩
        · intro f w1 hb hJ ⟨h16, h35, h33, h34, _⟩ K hK
          replace h16 : f 16 = _ := h16
          replace h35 : f 35 = _ := h35
          replace h33 : f 33 = _ := h33
          replace h34 : f 34 = _ := h34
          obtain ⟨o2, q0, hw2⟩ := HST.out w1 (hJ.2.resolve_left fun h => by have h9 := h34.symm.trans h.1; simp [undef] at h9)
          simp only [over, overL, Nat.reduceAdd, h16, h35, h33, h34]
          go_simp
          exact hK _ _ ⟨undef, by simp only [over, overL, Nat.reduceAdd, h16, h35, h33, h34]; rfl, trivial, hb.trans ((kpt_setBlock w1 _ o2).below hb.size (fun k e => by omega)), ⟨hJ.1.trans (kpt_setBlock w1 _ o2), hw2⟩, fun _ h => h⟩
      · intro f w1 hb hJ hv
        refine ⟨rfl, hJ.1, m2, HI.out.put HAL.out hJ.1 hJ.2, HNX.out, HLN.out⟩
    · intro xs W hS hI hs hd
      subst hS
      obtain ⟨m, hP, hat, hml⟩ := hI
      obtain ⟨w0, hr0, hk0, hb0, hs0⟩ := hP.mp.range lawKR (t := 49) Try.underlying49
      have s0 := hP.ks.c 0 rfl
      have hon : m.Pairwise fun x y => x.1 ≠ y.1 := by obtain ⟨D, _, h⟩ := hP.mp; exact h.once
      have HON : Hid (m.Pairwise fun x y => x.1 ≠ y.1) := hon
      have HAT : Hid (∀ r, atI m r = atP (pairsR acs) r) := hat
      have hmm : m.length ≤ 9000000 := by have := shares_most hl; omega
      have HWB : Hid (Below w.heap.size w W) := hP.below
      have HK0 : Hid (Wk keR w0 (w.heap.size + 1) W.heap.size m [] m.length) := hk0
      have HB0 : Hid (Below W.heap.size W w0) := hb0
      have hbW : w.heap.size + 1 < W.heap.size := hP.mp.lt
      clear hk0 hb0 hs0 hat hon hP hml
      go_wp2
      clear hr0 s0
      go_loopw [6] (fun v wr => ∃ (acc : List (Rt × Int)) (cnt : Nat), Wk keR wr (w.heap.size + 1) W.heap.size m (acc.map (·.1)) cnt ∧ (∀ x ∈ acc, x ∈ m) ∧ OwnR encPr wr (W.heap.size + 1) v acc ∧ Below W.heap.size W wr) (fun _ wr => wr.rangeLeft (w.heap.size + 1) W.heap.size)
      case atStart => exact ⟨[], _, HK0.out, (fun x hx => by cases hx), OwnR.nil _ _ _, HB0.out⟩
      case round =>
        obtain ⟨acc, cnt, hk, hsub, hown, hbr⟩ := hrel
        obtain ⟨aoV, capV, rfl⟩ := hown.shape
        have hal : acc.length ≤ m.length := by have := hk.few; simpa using this
        rcases hk.next lawKR 0 with ⟨hpm, hrun⟩ | ⟨x, w1, cnt', hx, hnd, hrun, hk1, hlt, hg, hsz, hen⟩
        · have HPM : Hid (acc.Perm m) := perm_keys HON.out hpm hsub
          have HO : Hid (OwnR encPr wr (W.heap.size + 1) (.slice aoV acc.length capV) acc) := hown
          have HBR : Hid (Below W.heap.size W wr) := hbr
          clear hpm hsub hown hk hbr
          generalize hnV : acc.length = nV at *
          go_wp2_with (go_at_call 15; refine (sortR_any (W.heap.size + 1) _ acc wr HO.out (by omega)).mono ?_; rintro e w3 ⟨rfl, ⟨l', ao2, cap2, hp, hs, hv, hrd⟩, hg⟩)
          have el : l' = pairsR acs := sorted_is HON.out (hp.trans HPM.out) hs (pairsF_rising _ _) HAT.out
          subst el
          have hrow : ∀ k, (Value.slice aoV (pairsR acs).length capV).ownBlock = some k → W.heap.size + 1 ≤ k := OwnR.row HO.out
          have hb3 : Below W.heap.size W w3 := HBR.out.grown hg HBR.out.size (fun k hk => by have := hrow k hk; omega)
          have hd3 : w3.heap[w.heap.size + 4]? = some (.deferred (some [])) := (hb3.block _ (by omega)).trans (by rw [← hsR]; exact hd)
          have hpk := Kpt.putObj (fun k => k = w.heap.size + 4) w3 (w.heap.size + 4) (.deferred none) rfl
          have hbw : Below w.heap.size w w3 := below_on HWB.out hb3
          exact leave_mark hd3 (v := .tuple #[.slice aoV (pairsR acs).length capV, .int .i64 0]) (by simp [results, Try.results6, go_sem]) ⟨hbw.trans (hpk.below hbw.size (fun k e => by omega)), .inr ⟨hl, aoV, capV, rfl, hrd.kpt hpk (fun ad e => by have := hrow ad.block (by rw [e]; rfl); omega)⟩⟩
        · obtain ⟨r, vol⟩ := x
          have HK1 : Hid (Wk keR w1 (w.heap.size + 1) W.heap.size m ((acc ++ [(r, vol)]).map (·.1)) cnt') := by show Wk _ _ _ _ _ _ _; rw [List.map_append]; exact hk1
          have HSUB : Hid (∀ x ∈ acc ++ [(r, vol)], x ∈ m) := fun x hx2 => (List.mem_append.1 hx2).elim (hsub x) fun e => by rw [List.mem_singleton] at e; subst e; exact hx
          have HCN : Hid (cnt' < wr.rangeLeft (w.heap.size + 1) W.heap.size) := by show _ < _; rw [hk.left]; exact hlt
          have HO1 : Hid (OwnR encPr w1 (W.heap.size + 1) (.slice aoV acc.length capV) acc) := hown.kept hg (by
            cases e : (Value.slice aoV acc.length capV).ownBlock with
            | none => exact .inl rfl
            | some k => exact .inr (fun e2 => by injection e2 with e2; have := OwnR.row hown k e; omega))
          have HB1 : Hid (Below W.heap.size W w1) := hbr.grown hg hbr.size (fun k e => by injection e with e; omega)
          have hb1s : W.heap.size < w1.heap.size := by have := hk1.lt; omega
          clear hk hk1 hsub hown hbr hx hnd hlt hg hsz
          generalize hnV : acc.length = nV at *
          go_wp2_with (at_builtin; refine wpList_append_row goodPr Try.underlying27 infoPr rfl (by decide) (by decide) _ rfl (.tmp 43) (.tmp 50) rfl (W.heap.size + 1) (.slice aoV nV capV) acc rfl ((HO1.out.alloc _).alloc _) (w1.heap.size + 1) (r, vol) rfl (fun j u hu => (Bk.new (w1.alloc _) _ 39 (w1.heap.size + 1) (by simp)).c j hu) (by omega) (by simp; omega) ?_; intro v' w4 ho hg4 hloc; obtain ⟨aoW, capW, rfl⟩ := ho.shape)
          have hlen : (acc ++ [(r, vol)]).length = nV + 1 := by simp [hnV]
          have hrow : ∀ k, (Value.slice aoV nV capV).ownBlock = some k → W.heap.size + 1 ≤ k := OwnR.row HO1.out
          have ka : Kpt (fun k => W.heap.size + 1 ≤ k) w1 w4 := ((Kpt.of_below ((Below.refl _ _).alloc (Nat.le_refl _) _)).trans (Kpt.of_below ((Below.refl _ _).alloc (Nat.le_refl _) _))).trans (Kpt.grown hg4 fun k e => hrow k e)
          have hkw := HK1.out
          have hb4 : w4.heap[w.heap.size + 1]? = w1.heap[w.heap.size + 1]? := ka.block _ hkw.lt.1 (by omega)
          have hr4 : w4.heap[W.heap.size]? = w1.heap[W.heap.size]? := ka.block _ hkw.lt.2.1 (by omega)
          have HK4 : Hid (Wk keR w4 (w.heap.size + 1) W.heap.size m ((acc ++ [(r, vol)]).map (·.1)) cnt') := hkw.same hb4 hr4
          have HB4 : Hid (Below W.heap.size W w4) := HB1.out.trans (ka.below HB1.out.size (fun k e => by omega))
          clear ka hb4 hr4 hkw hrow hg4 hloc
          go_roundw
          case rel => exact ⟨acc ++ [(r, vol)], ⟨cnt', HK4.out⟩, fun _ _ _ _ _ _ _ h => HSUB.out _ h, by rw [hlen] at ho; exact ho, HB4.out⟩
          case measure => rw [HK4.out.left]; exact HCN.out
end Go.Proofs.Ytgbnjgenopdmfaa
