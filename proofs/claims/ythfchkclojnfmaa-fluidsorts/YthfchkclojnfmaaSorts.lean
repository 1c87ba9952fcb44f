/- workcellkeep.FluidSorts, walked: it answers true. -/
import Derived.Test.YthfchkclojnfmaaGive
import Derived.Test.YthfchkclojnfmaaShr
namespace Go.Proofs.Ythfchkclojnfmaa
open Go.RowKit Go.Maps Go.WideMaps

theorem put_in {f g : List Pc} (h : (putR f g).2 = 0) : (fref f = 0 ∧ fref g = 0) ∧ putR f g = (plainL (f ++ g), 0) ∧ fref (plainL (f ++ g)) = 0 := by
  unfold putR at h ⊢
  by_cases h1 : fref f = 0
  · rw [if_pos h1] at h ⊢
    by_cases h2 : fref g = 0
    · rw [if_pos h2] at h ⊢
      by_cases h3 : 1000000000 < tot f + tot g
      · rw [if_pos h3] at h; cases h
      · rw [if_neg h3] at h ⊢
        by_cases h4 : 100 < (plainL (f ++ g)).length
        · rw [if_pos h4] at h; cases h
        · rw [if_neg h4]
          refine ⟨⟨h1, h2⟩, rfl, of_fref (by omega) ?_ ?_⟩
          · exact fine_plainL (fun p hp => (List.mem_append.1 hp).elim ((fref_in h1).2.1 p) ((fref_in h2).2.1 p)) (by rw [tot_append]; omega)
          · rw [tot_plainL, tot_append]; omega
    · rw [if_neg h2] at h; exact absurd h h2
  · rw [if_neg h1] at h; exact absurd h h1
theorem wthn_put {f g : List Pc} (hf : Nn f) (hg : Nn g) : wthn f (plainL (f ++ g)) = true := by
  unfold wthn
  rw [List.all_eq_true]
  intro p hp
  by_cases h : p.2 ≤ 0
  · rw [decide_eq_true h]; rfl
  · have h1 := (sumL_pos hf p.1.data.toList).2 ⟨p, hp, rfl, by omega⟩
    have h2 := (sumL_in hg p.1.data.toList).1
    rw [sumL_plainL, sumL_append]
    simp only [Bool.or_eq_true, decide_eq_true_eq]
    right; omega

def exC : List Pc := [(⟨#[98]⟩, 1), (⟨#[97]⟩, 2), (⟨#[98]⟩, 3)]
theorem exC_fref : fref exC = 0 := by decide +kernel
theorem exC_fl (w : World) : Fl (w.alloc (.cells #[.string ⟨#[98]⟩, .int .i64 1, .string ⟨#[97]⟩, .int .i64 2, .string ⟨#[98]⟩, .int .i64 3] 46)) (some ⟨w.heap.size, 0, none⟩) exC := by
  refine ⟨fun p hp => ?_, .inr ⟨w.heap.size, 0, rfl, by simp, fun k hk => ?_⟩⟩
  · simp only [exC, List.mem_cons, List.mem_nil_iff, or_false] at hp
    rcases hp with rfl | rfl | rfl <;> decide
  · match k, hk with
    | 0, _ => exact ⟨by go_simp; rfl, by go_simp; rfl⟩
    | 1, _ => exact ⟨by go_simp; rfl, by go_simp; rfl⟩
    | 2, _ => exact ⟨by go_simp; rfl, by go_simp; rfl⟩
theorem exC_size : ∀ p ∈ ([(⟨#[97]⟩, 2), (⟨#[98]⟩, 4)] : List Pc), p.1.size ≤ maxLen := fun p hp => by
  simp only [List.mem_cons, List.mem_nil_iff, or_false] at hp
  rcases hp with rfl | rfl <;> decide
theorem exC_srt : Srt exC [(⟨#[97]⟩, 2), (⟨#[98]⟩, 4)] := by
  refine ⟨by decide, fun p => ?_⟩
  obtain ⟨s, n⟩ := p
  simp only [exC, sumL, List.mem_cons, List.mem_nil_iff, or_false, Prod.mk.injEq, lb]
  have ea : ∀ b : UInt8, (s = ⟨#[b]⟩) ↔ [b] = s.data.toList := fun b => ⟨fun h => by rw [h], fun h => ByteArray.ext (Array.ext' h.symm)⟩
  rw [ea, ea]
  by_cases h1 : [97] = s.data.toList
  · have h2 : ¬ [98] = s.data.toList := fun h => by rw [← h1] at h; revert h; decide
    simp [h1, h2]
    omega
  · by_cases h2 : [98] = s.data.toList
    · simp [h1, h2]
      omega
    · simp [h1, h2]
      omega

set_option maxHeartbeats 1600000 in
theorem sorts_any (ao ao' : Option Addr) (cap cap' : Nat) (ps qs : List Pc) (w : World) (h : Fl w ao ps) (h' : Fl w ao' qs) :
    Calls Try.prog 7 #[.slice ao ps.length cap, .slice ao' qs.length cap'] w fun e w' => e = .returned (.bool true) ∧ Below w.heap.size w w' := by
  have HF : Hid (Fl w ao ps) := h
  have HG : Hid (Fl w ao' qs) := h'
  clear h h'
  go_enter Try.func7, Try.ntmps7
  go_wp2_with fail
  refine (put_any ao ao' cap cap' ps qs w HF.out HG.out).mono ?_
  rintro e w1 ⟨x1, rfl, ho1, hb⟩
  have O1 : Hid (Own w1 w.heap.size x1 (putR ps qs).1) := ho1
  have HB1 : Hid (Below w.heap.size w w1) := hb
  clear ho1 hb
  go_wp2_with fail
  refine (put_any ao' ao cap' cap qs ps w1 (HG.out.next HB1.out) (HF.out.next HB1.out)).mono ?_
  rintro e w2 ⟨x2, rfl, ho2, hb⟩
  have O2 : Hid (Own w2 w1.heap.size x2 (putR qs ps).1) := ho2
  have O12 : Hid (Own w2 w.heap.size x1 (putR ps qs).1) := own_below O1.out hb
  have HB2 : Hid (Below w.heap.size w w2) := HB1.out.trans (hb.mono HB1.out.size)
  clear ho2 hb O1
  by_cases hok : (putR ps qs).2 = 0 ∧ (putR qs ps).2 = 0
  · obtain ⟨⟨hr, hr'⟩, e1, hfa⟩ := put_in hok.1
    obtain ⟨_, e2, hfb⟩ := put_in hok.2
    have HR : Hid (fref ps = 0) := hr
    have HR' : Hid (fref qs = 0) := hr'
    rw [e1] at O12 ⊢
    rw [e2] at O2 ⊢
    clear hok e1 e2 hr hr'
    have HE : Hid (∀ l, sumL (plainL (qs ++ ps)) l = sumL (plainL (ps ++ qs)) l) := fun l => by rw [sumL_plainL, sumL_plainL, sumL_append, sumL_append, Int.add_comm]
    have HWt : Hid (withR ps (plainL (ps ++ qs)) = (true, 0)) := by
      unfold withR
      rw [if_pos HR.out, if_pos hfa, wthn_put (fref_in HR.out).2.1.nn (fref_in HR'.out).2.1.nn]; rfl
    generalize plainL (ps ++ qs) = A at *
    generalize plainL (qs ++ ps) = B at *
    have HFA : Hid (fref A = 0) := hfa
    have HFB : Hid (fref B = 0) := hfb
    clear hfa hfb
    simp only at O12 O2 ⊢
    obtain ⟨a1, c1, rfl, f1⟩ := O12.out.give (fine_size HFA.out)
    obtain ⟨a2, c2, rfl, f2⟩ := O2.out.give (fine_size HFB.out)
    have F1 : Hid (Fl w2 a1 A) := f1
    have F2 : Hid (Fl w2 a2 B) := f2
    clear f1 f2 O12 O2
    go_wp2_with fail
    refine (sorted_ok a1 c1 A w2 F1.out HFA.out).mono ?_
    rintro e w3 ⟨v3, S3, rfl, hS3, hl3, ho3, hb⟩
    obtain ⟨a3, c3, rfl, f3⟩ := ho3.give (srt_size HFA.out hS3)
    have F3 : Hid (Fl w3 a3 S3) := f3
    have HS3 : Hid (Srt A S3) := hS3
    have HB3 : Hid (Below w2.heap.size w2 w3) := hb
    have hlA := (fref_in HFA.out).1
    clear ho3 hb hS3 f3
    go_wp2_with fail
    refine (sorted_ok a2 c2 B w3 (F2.out.next HB3.out) HFB.out).mono ?_
    rintro e w4 ⟨v4, S4, rfl, hS4, _, ho4, hb⟩
    have hSS : S4 = S3 := srt_unique (srt_congr HE.out hS4) HS3.out
    subst hSS
    obtain ⟨a4, c4, rfl, f4⟩ := ho4.give (srt_size HFA.out HS3.out)
    have F4 : Hid (Fl w4 a4 S4) := f4
    have F34 : Hid (Fl w4 a3 S4) := F3.out.next hb
    have HB4 : Hid (Below w2.heap.size w2 w4) := HB3.out.trans (hb.mono HB3.out.size)
    have HB4w : Hid (Below w.heap.size w w4) := HB2.out.trans (HB4.out.mono HB2.out.size)
    clear ho4 hb hS4 f4 F3
    go_wp2_with fail
    refine (withinF_any ao a1 cap c1 ps A w4 (HF.out.next HB4w.out) (F1.out.next HB4.out)).mono ?_
    rintro e w5 ⟨rfl, hb⟩
    rw [HWt.out]
    have F5 : Hid (Fl w5 a4 S4) := F4.out.next hb
    have F35 : Hid (Fl w5 a3 S4) := F34.out.next hb
    have HB5 : Hid (Below w.heap.size w w5) := HB4w.out.trans (hb.mono HB4w.out.size)
    clear hb
    simp only
    go_wp2_with fail
    refine (sameK_any a3 a4 c3 c4 S4 w5 F35.out F5.out (by omega)).mono ?_
    rintro e w6 ⟨rfl, n6, rfl⟩
    have HB6 : Hid (Below w.heap.size w (w5.drewN n6)) := below_drewN HB5.out n6
    clear F5 F35
    generalize w5.drewN n6 = w6 at *
    go_wp2_with fail
    refine (sorted_ok (some ⟨w6.heap.size, 0, none⟩) 3 exC _ (exC_fl w6) exC_fref).mono ?_
    rintro e w9 ⟨v9, S9, rfl, hS9, _, ho9, hb9⟩
    obtain rfl := srt_unique hS9 exC_srt
    obtain ⟨av, cv, rfl, fv⟩ := ho9.give exC_size
    obtain ⟨g9, o9, rfl, _, d0, _, _⟩ := fv.at (k := 0) (by decide)
    obtain ⟨g9', o9', e9, _, _, d1, _⟩ := fv.at (k := 1) (by decide)
    injection e9 with e9
    injection e9 with e9 e10 _
    subst e9 e10
    have HB9 : Hid (Below w.heap.size w w9) := HB6.out.trans ((((Below.refl _ _).alloc (Nat.le_refl _) _).trans (hb9.mono (by simp))).mono HB6.out.size)
    clear ho9 hb9 hS9 fv
    have hlen : ([((⟨#[97]⟩ : ByteArray), (2 : Int)), (⟨#[98]⟩, 4)] : List Pc).length = 2 := rfl
    rw [hlen]
    clear hlen
    simp only [List.getElem_cons_zero, List.getElem_cons_succ, Nat.zero_mul, Nat.one_mul, Nat.add_zero] at d0 d1
    go_wp2
    go_ret
    exact ⟨rfl, HB9.out⟩
  · have hd : ((putR ps qs).2 == 0) = false ∨ ((putR ps qs).2 == 0) = true ∧ ((putR qs ps).2 == 0) = false := by
      by_cases h1 : (putR ps qs).2 = 0
      · exact .inr ⟨by simp [h1], by simp; exact fun e => hok ⟨h1, e⟩⟩
      · exact .inl (by simp [h1])
    clear hok
    generalize (putR ps qs).2 = r1 at *
    generalize (putR qs ps).2 = r2 at *
    rcases hd with hd | ⟨hd, hd2⟩
    · go_wp2_with fail
      refine (sorted_ok (some ⟨w2.heap.size, 0, none⟩) 3 exC _ (exC_fl w2) exC_fref).mono ?_
      rintro e w9 ⟨v9, S9, rfl, hS9, _, ho9, hb9⟩
      obtain rfl := srt_unique hS9 exC_srt
      obtain ⟨av, cv, rfl, fv⟩ := ho9.give exC_size
      obtain ⟨g9, o9, rfl, _, d0, _, _⟩ := fv.at (k := 0) (by decide)
      obtain ⟨g9', o9', e9, _, _, d1, _⟩ := fv.at (k := 1) (by decide)
      injection e9 with e9
      injection e9 with e9 e10 _
      subst e9 e10
      have HB9 : Hid (Below w.heap.size w w9) := HB2.out.trans ((((Below.refl _ _).alloc (Nat.le_refl _) _).trans (hb9.mono (by simp))).mono HB2.out.size)
      clear ho9 hb9 hS9 fv
      have hlen : ([((⟨#[97]⟩ : ByteArray), (2 : Int)), (⟨#[98]⟩, 4)] : List Pc).length = 2 := rfl
      rw [hlen]
      clear hlen
      simp only [List.getElem_cons_zero, List.getElem_cons_succ, Nat.zero_mul, Nat.one_mul, Nat.add_zero] at d0 d1
      go_wp2
      go_ret
      exact ⟨rfl, HB9.out⟩
    · go_wp2_with fail
      refine (sorted_ok (some ⟨w2.heap.size, 0, none⟩) 3 exC _ (exC_fl w2) exC_fref).mono ?_
      rintro e w9 ⟨v9, S9, rfl, hS9, _, ho9, hb9⟩
      obtain rfl := srt_unique hS9 exC_srt
      obtain ⟨av, cv, rfl, fv⟩ := ho9.give exC_size
      obtain ⟨g9, o9, rfl, _, d0, _, _⟩ := fv.at (k := 0) (by decide)
      obtain ⟨g9', o9', e9, _, _, d1, _⟩ := fv.at (k := 1) (by decide)
      injection e9 with e9
      injection e9 with e9 e10 _
      subst e9 e10
      have HB9 : Hid (Below w.heap.size w w9) := HB2.out.trans ((((Below.refl _ _).alloc (Nat.le_refl _) _).trans (hb9.mono (by simp))).mono HB2.out.size)
      clear ho9 hb9 hS9 fv
      have hlen : ([((⟨#[97]⟩ : ByteArray), (2 : Int)), (⟨#[98]⟩, 4)] : List Pc).length = 2 := rfl
      rw [hlen]
      clear hlen
      simp only [List.getElem_cons_zero, List.getElem_cons_succ, Nat.zero_mul, Nat.one_mul, Nat.add_zero] at d0 d1
      go_wp2
      go_ret
      exact ⟨rfl, HB9.out⟩
end Go.Proofs.Ythfchkclojnfmaa
