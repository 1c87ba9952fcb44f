/- What a command keeps, plainly. -/
import Derived.Test.YtgahlhfgpkklaaaDoorFQH
namespace Go.Proofs.YtgahlhfgpkklaaaDoor
open Go.RowKit

theorem dur_nn {r : Rg} {f : Fm} {c : Cm} (hr : RgOk r) (hf : FmOk r f) (hc : chkM c = 0) (he : errC r f c = none) : 0 ≤ durC r f c := by
  obtain ⟨_, _, hv⟩ := chk_ok hc
  have hrp := rpOk_iff.1 hr.rp
  unfold durC
  split
  · unfold homeT
    split
    · exact (tick_bd hr hf.at' (in_zero hr)).1
    · exact (tick_bd hr (in_hi hr) (in_lo hr)).1
  · split
    · rename_i h2
      have hp : inS r (toP c) = true := by
        cases h : inS r (toP c) with
        | true => rfl
        | false =>
          unfold errC at he
          simp [h2, h] at he
          split at he <;> cases he
      exact (tick_bd hr hf.at' hp).1
    · split
      · exact (upB_bd (by unfold chg; omega) (by decide)).1
      · split
        · exact (upB_bd (Int.mul_nonneg hv.1 (by omega)) (by decide)).1
        · exact Int.le_refl _
theorem obE_split {r : Rg} {f : Fm} {c : Cm} (h : obE r f c = none) : errC r f c = none ∧ f.tk + durC r f c ≤ 1000000000000000 := by
  unfold obE at h
  cases e : errC r f c with
  | some i => rw [e] at h; cases h
  | none =>
    rw [e] at h
    simp only at h
    split at h
    · cases h
    · rename_i h1
      exact ⟨rfl, by omega⟩
theorem keep_ok {r : Rg} {f : Fm} {c : Cm} (hr : RgOk r) (hf : FmOk r f) (hc : chkM c = 0) (ho : obE r f c = none) : FmOk r (obF r f c) ∧ f.tk ≤ (obF r f c).tk := by
  obtain ⟨hk, _, hv⟩ := chk_ok hc
  obtain ⟨he, hl⟩ := obE_split ho
  have hd := dur_nn hr hf hc he
  have htk := hf.tk
  have hmo := hr.mo
  unfold obF
  split
  · exact ⟨⟨in_zero hr, .inl rfl, hf.pl, hf.ht, hf.tu, by simp only; omega⟩, by simp only; omega⟩
  · split
    · rename_i h2
      have hh : f.hm = true ∧ inS r (toP c) = true := by
        unfold errC at he
        rw [if_pos h2] at he
        split at he
        · cases he
        · rename_i h3
          split at he
          · cases he
          · rename_i h4
            exact ⟨by simpa using h3, by simpa using h4⟩
      exact ⟨⟨hh.2, .inl hh.1, hf.pl, hf.ht, hf.tu, by simp only; omega⟩, by simp only; omega⟩
    · split
      · rename_i h1 h2 h3
        have hm : c.v ≤ r.mo := by
          unfold errC at he
          rw [if_neg h2, if_pos h3] at he
          split at he
          · cases he
          · split at he
            · cases he
            · split at he
              · cases he
              · omega
        exact ⟨⟨hf.at', hf.hm, ⟨hv.1, hm⟩, hf.ht, hf.tu, by simp only; omega⟩, by simp only; omega⟩
      · split
        · exact ⟨⟨hf.at', hf.hm, by simp only; omega, hf.ht, hf.tu, hf.tk⟩, Int.le_refl _⟩
        · split
          · exact ⟨⟨hf.at', hf.hm, by simp only; omega, hf.ht, hf.tu, hf.tk⟩, Int.le_refl _⟩
          · split
            · exact ⟨⟨hf.at', hf.hm, hf.pl, hv, hf.tu, hf.tk⟩, Int.le_refl _⟩
            · split
              · exact ⟨⟨hf.at', hf.hm, hf.pl, hf.ht, hf.tu, by simp only; omega⟩, by simp only; omega⟩
              · split
                · exact ⟨⟨hf.at', hf.hm, hf.pl, hf.ht, hv, hf.tk⟩, Int.le_refl _⟩
                · exact ⟨hf, Int.le_refl _⟩
/-- What comes of a command that is done. -/
theorem done_ok {r : Rg} {f : Fm} {c : Cm} (h : DoE r f c = 0) : rgOk r = true ∧ fmOk r f = true ∧ chkM c = 0 ∧ obE r f c = none ∧ DoV r f c = obF r f c ∧ fmOk r (DoV r f c) = true ∧ f.tk ≤ (DoV r f c).tk := by
  have e3 : DoV r f c = obF r f c := by unfold DoV; rw [if_pos h]
  unfold DoE at h
  split at h
  · cases h
  · rename_i hr
    split at h
    · cases h
    · rename_i hf
      have hr : rgOk r = true := by simpa using hr
      have hf : fmOk r f = true := by simpa using hf
      unfold doN at h
      split at h
      · rename_i hc
        have ho := (numE_zero (o := obE r f c) fun i hi => obE_lt hi).1 h
        have hk := keep_ok (rgOk_iff.1 hr) (fmOk_iff.1 hf) hc ho
        rw [e3]
        exact ⟨hr, hf, hc, ho, rfl, fmOk_iff.2 hk.1, hk.2⟩
      · rename_i hc
        exact absurd h hc
/-- The rig, and the command, of the laws' first words. -/
def r1 : Rg := ⟨p0, ⟨9, 9, 9⟩, ⟨10, 1, 2, 0⟩, 1, 5⟩
def c1 : Cm := ⟨1, 0, 0, 0, 0⟩
def f1 : Fm := ⟨true, p0, 0, false, 0, 0, 90⟩
theorem tot1 : totR r1.rp 9 = 90 := by decide
theorem home1 : DoE r1 f0 c1 = 0 ∧ DoV r1 f0 c1 = f1 := by
  have h1 : rgOk r1 = true := by decide
  have h2 : fmOk r1 f0 = true := by decide
  have h3 : chkM c1 = 0 := by decide
  have h4 : homeT r1 f0 = 90 := by
    unfold homeT
    rw [if_neg (show ¬ f0.hm = true by decide)]
    unfold tick
    rw [show stepsN r1 r1.hi r1.lo = 9 by decide, runT_less (by decide), tot1]
  have h5 : durC r1 f0 c1 = 90 := by unfold durC; rw [if_pos (show c1.k = 1 from rfl)]; exact h4
  have h6 : errC r1 f0 c1 = none := by decide
  have h7 : obE r1 f0 c1 = none := obE_none h6 (by rw [h5]; decide)
  have h8 : DoE r1 f0 c1 = 0 := by unfold DoE doN; rw [h1, h2, h3, h7]; rfl
  refine ⟨h8, ?_⟩
  unfold DoV
  rw [if_pos h8]
  unfold obF
  rw [if_pos (show c1.k = 1 from rfl), h5]
  rfl
end Go.Proofs.YtgahlhfgpkklaaaDoor
