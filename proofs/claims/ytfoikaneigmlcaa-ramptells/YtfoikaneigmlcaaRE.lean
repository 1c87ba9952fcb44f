/- within walked. -/
import Derived.Test.YtfoikaneigmlcaaRD
namespace Go.Proofs.Ytfoikaneigmlcaa
open Go.RowKit

attribute [local go_sem] Oper.semAt_some
/-- How many of the steps that take these times are done within so many ticks. -/
def doneN : Int → List Int → Nat
  | _, [] => 0
  | t, x :: xs => if t < x then 0 else doneN (t - x) xs + 1
theorem doneN_stop {t : Int} {xs : List Int} {k : Nat} (h : k < xs.length) (hx : t < xs[k]'h) : doneN t (xs.drop k) = 0 := by
  rw [List.drop_eq_getElem_cons h]
  simp [doneN, hx]
theorem doneN_more {t : Int} {xs : List Int} {k : Nat} (h : k < xs.length) (hx : xs[k]'h ≤ t) : doneN t (xs.drop k) = doneN (t - xs[k]'h) (xs.drop (k + 1)) + 1 := by
  rw [List.drop_eq_getElem_cons h]
  simp only [doneN]
  rw [if_neg (by omega)]
structure WiI (w : World) (t : Int) (xs : List Int) (k : Nat) (W : World) : Prop where
  some : ∃ t', 0 ≤ t' ∧ t' ≤ t ∧ doneN t xs = k + doneN t' (xs.drop k) ∧ Bk w.heap.size [.int .i64 t'] W
  done : Bk (w.heap.size + 1) [.int .i64 (k : Int)] W
  below : Below w.heap.size w W
structure WiX (w : World) (t : Int) (xs : List Int) (k : Nat) (W : World) : Prop where
  done : Bk (w.heap.size + 1) [.int .i64 ((doneN t xs : Nat) : Int)] W
  below : Below w.heap.size w W
theorem Kpt.belowB {M : Nat → Prop} {w A B : World} (h : Below w.heap.size w A) (hk : Kpt M A B) (hM : ∀ k, M k → w.heap.size ≤ k) : Below w.heap.size w B := h.trans (hk.below h.size hM)
set_option maxHeartbeats 6400000 in
set_option maxRecDepth 100000 in
theorem within_any {gf : Nat} {lb : Array Value} {xs : List Int} {z lo : Nat} (t : Int) (w : World) (h : GivesAt gf lb xs z lo w) (h0 : 0 ≤ t) (ht : t ≤ 9223372036854775807) (hx : ∀ x ∈ xs, 0 ≤ x) (hn : xs.length ≤ 20000) :
    Calls Try.prog 21 #[.int .i64 t, .func (.func gf) #[] lb] w fun e w' => e = .returned (.int .i64 ((doneN t xs : Nat) : Int)) ∧ Below w.heap.size w w' := by
  have HG : Hid (GivesAt gf lb xs z lo w) := h
  have HX : Hid (∀ x ∈ xs, 0 ≤ x) := hx
  have HN : Hid (xs.length ≤ 20000) := hn
  clear h hx hn
  refine (callsIn_wide (n := 9)).1 (callsIn_of_wp_marks Try.func21 rfl trivial (wpIn_wide.2 ?_) rfl)
  simp only [Try.ntmps21, List.size_toArray, List.length_cons, List.length_nil, Nat.reduceAdd, Nat.reduceSub, Array.replicate_succ, Array.replicate_zero, List.push_toArray, List.append_toArray, List.nil_append, List.cons_append]
  go_wp2_with fail
  obtain ⟨wR, hwR⟩ : ∃ x, x = (w.alloc (io t)).alloc (io 0) := ⟨_, rfl⟩
  have hsR : wR.heap.size = w.heap.size + 2 := by rw [hwR]; simp
  have HBR : Hid (Below w.heap.size w wR) := by show Below _ _ _; rw [hwR]; exact ((Below.refl _ _).alloc (Nat.le_refl _) _).alloc (by simp) _
  have K0 : Hid (Bk w.heap.size [.int .i64 t] wR) := by show Bk _ _ _; rw [hwR]; exact (Bk.new w [.int .i64 t] 3 w.heap.size rfl).later ((Below.refl _ _).alloc (Nat.le_refl _) _)
  have K1 : Hid (Bk (w.heap.size + 1) [.int .i64 ((0 : Nat) : Int)] wR) := by show Bk _ _ _; rw [hwR]; exact Bk.new (w.alloc (io t)) [.int .i64 0] 3 (w.heap.size + 1) (by simp)
  rw [← hwR]
  clear hwR
  refine (wpIn_wide (n := 9)).1 (range_it (n := 9) (gf := gf) (lb := lb) rfl HG.out.1 xs (fun k => wR.heap.size + 2 ≤ k ∧ k < wR.heap.size + 2 + z) (fun k => k = w.heap.size ∨ k = w.heap.size + 1) rfl ?_ (fun k e => e.1) (by omega) (by omega)
    (WiI w t xs) (WiX w t xs) ?_ ?_ ⟨⟨t, h0, Int.le_refl _, by simp, K0.out⟩, K1.out, HBR.out⟩
    (fun x => { tmps := #[.int .i64 t, .func (.func gf) #[] lb, ptr w.heap.size, undef, .int .i64 0, ptr (w.heap.size + 1), .int .i64 x, .func (.func gf) #[] lb, .int .i64 x, undef, undef, undef, undef, undef, undef, undef, undef, undef], defers := [] }) (.exit 0) (.exit 0) (.inr ⟨0, rfl, rfl⟩) ?_ ?_ ?_ ?_)
  · intro W2 hb2 hs2
    have := HG.out.2 (9 - 1) (fun k => k = w.heap.size ∨ k = w.heap.size + 1) (wR.heap.size + 1) W2 (HBR.out.trans (hb2.mono HBR.out.size)) (by rintro k (e | e) <;> omega) (by omega) (by omega)
    rw [hs2] at this
    exact this
  · rintro s A2 B2 ⟨⟨t', h1, h2, h3, h4⟩, h5, h6⟩ hk
    exact ⟨⟨t', h1, h2, h3, bk_kpt h4 hk (by omega)⟩, bk_kpt h5 hk (by omega), Kpt.belowB h6 hk (fun k e => by omega)⟩
  · rintro s A2 B2 ⟨h5, h6⟩ hk
    exact ⟨bk_kpt h5 hk (by omega), Kpt.belowB h6 hk (fun k e => by omega)⟩
  · intro l2 x W2 K hK
    have HK : Hid _ := hK
    clear hK
    gi_wp2
    exact HK.out
  · rintro l2 k hk W2 ⟨⟨t', h1, h2, h3, h4⟩, h5, h6⟩ hs
    have hx0 : 0 ≤ xs[k]'hk := HX.out _ (List.getElem_mem hk)
    have HS : Hid (t' < xs[k]'hk → doneN t' (xs.drop k) = 0) := fun e => doneN_stop hk e
    have HM : Hid (xs[k]'hk ≤ t' → doneN t' (xs.drop k) = doneN (t' - xs[k]'hk) (xs.drop (k + 1)) + 1) := fun e => doneN_more hk e
    have HK : Hid (k ≤ 20000) := by show _ ≤ _; have := HN.out; omega
    obtain ⟨x, hxe⟩ : ∃ x, x = xs[k]'hk := ⟨_, rfl⟩
    rw [← hxe] at hx0 HS HM ⊢
    have H3 : Hid (doneN t xs = k + doneN t' (xs.drop k)) := h3
    have H4 : Hid (Bk w.heap.size [.int .i64 t'] W2) := h4
    have H5 : Hid (Bk (w.heap.size + 1) [.int .i64 (k : Int)] W2) := h5
    have H6 : Hid (Below w.heap.size w W2) := h6
    have c4 := h4.c 0 rfl
    have f4 := h4.f 0 rfl
    have c5 := h5.c 0 rfl
    have f5 := h5.f 0 rfl
    have hk2 := HK.out
    clear h3 h4 h5 h6 hxe hs hk
    by_cases hlt : t' < x
    · have HE : Hid (k = doneN t xs) := by show _ = _; rw [H3.out, HS.out hlt]; omega
      gi_wp2
      refine ⟨Kpt.refl _ _, ?_, H6.out⟩
      have := H5.out
      rw [HE.out] at this
      exact this
    · have HE : Hid (doneN t xs = (k + 1) + doneN (t' - x) (xs.drop (k + 1))) := by show _ = _; rw [H3.out, HM.out (by omega)]; omega
      gi_wp2
      refine ⟨(Kpt.setCell _ _ _ _ (.inl rfl)).trans (Kpt.setCell _ _ _ _ (.inr rfl)), ⟨t' - x, by omega, by omega, HE.out, (H4.out.put 0 _).other (by omega) _ _⟩, ?_, (H6.out.setCell (by show w.heap.size ≤ w.heap.size; omega) _).setCell (by show w.heap.size ≤ w.heap.size + 1; omega) _⟩
      exact (H5.out.other (by omega) _ _).put 0 _
  · rintro W2 ⟨⟨t', h1, h2, h3, h4⟩, h5, h6⟩ hs hd
    have HE : Hid (doneN t xs = xs.length) := by show _ = _; rw [h3, List.drop_length]; rfl
    have c5 := h5.c 0 rfl
    have HF : Hid (Below w.heap.size w (W2.putObj wR.heap.size (.deferred none))) := Kpt.belowB h6 (Kpt.putObj (fun k => k = wR.heap.size) _ _ _ rfl) (fun k e => by omega)
    clear h1 h2 h3 h4 h5 h6
    go_wp2
    exact leave_mark hd (v := .int .i64 (xs.length : Int)) (by simp [results, Try.results21, go_sem]) ⟨by rw [HE.out], HF.out⟩
  · rintro k W2 hk ⟨h5, h6⟩ hs hd
    have c5 := h5.c 0 rfl
    have HF : Hid (Below w.heap.size w (W2.putObj wR.heap.size (.deferred none))) := Kpt.belowB h6 (Kpt.putObj (fun k => k = wR.heap.size) _ _ _ rfl) (fun k e => by omega)
    clear h5 h6
    refine wpIn_wide.2 ?_
    go_wp2
    exact leave_mark hd (v := .int .i64 ((doneN t xs : Nat) : Int)) (by simp [results, Try.results21, go_sem]) ⟨rfl, HF.out⟩
end Go.Proofs.Ytfoikaneigmlcaa
