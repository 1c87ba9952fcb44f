import Derived.Test.YtgbnjgenopdmfaaGreatKq
import Derived.Test.YtgbnjgenopdmfaaGreatKf

/- flow.Save walked. -/
namespace Go.Proofs.YtgbnjgenopdmfaaGreat
open Go.RowKit Go.Maps
/-- With nothing on, it holds nothing anywhere. -/
theorem Fb.zero {X Y : Nat → Prop} {wB w : World} {ao : Option Addr} {cap : Nat} {l : List Sit} {b m : Nat} (h : Fb X wB w ao cap l b m sta0) (hY : ∀ k, Y k → k < w.heap.size) (hx : Y b ∧ Y m) : Fb Y wB w ao cap l b m sta0 := by
  obtain ⟨wl, h1, h2, h3⟩ := h.wells
  obtain ⟨aoH, capH, aoT, capT, h4, h5, h6⟩ := h.bk
  have hwl : wl = [] := by
    have := congrArg List.length h2
    rw [whp_length] at this
    exact List.eq_nil_of_length_eq_zero this
  subst hwl
  exact ⟨h.dk, h.hd, h.may, h.below, h.lb, h.ne, hx, hY, ⟨[], h1, h2, fun x hx => by cases hx⟩, ⟨aoH, capH, aoT, capT, h4, ⟨h5.1, .inl rfl⟩, ⟨h6.1, .inl rfl⟩⟩⟩
abbrev put10 (w : World) (R : Nat) (v0 v1 v2 v3 v4 v5 v6 v7 v8 v9 : Value) : World := ((((((((((w).setCell ⟨R, 0, none⟩ v0).setCell ⟨R, 1, none⟩ v1).setCell ⟨R, 2, none⟩ v2).setCell ⟨R, 3, none⟩ v3).setCell ⟨R, 4, none⟩ v4).setCell ⟨R, 5, none⟩ v5).setCell ⟨R, 6, none⟩ v6).setCell ⟨R, 7, none⟩ v7).setCell ⟨R, 8, none⟩ v8).setCell ⟨R, 9, none⟩ v9
theorem but_put10 (R : Nat) (w : World) (v0 v1 v2 v3 v4 v5 v6 v7 v8 v9 : Value) : But R R w (put10 w R v0 v1 v2 v3 v4 v5 v6 v7 v8 v9) :=
  ((((((((((but_set R R w 0 v0).trans (but_set R R _ 1 v1)).trans (but_set R R _ 2 v2)).trans (but_set R R _ 3 v3)).trans (but_set R R _ 4 v4)).trans (but_set R R _ 5 v5)).trans (but_set R R _ 6 v6)).trans (but_set R R _ 7 v7)).trans (but_set R R _ 8 v8)).trans (but_set R R _ 9 v9))
theorem Bk.put10 {R : Nat} {w : World} {u0 u1 u2 u3 u4 u5 u6 u7 u8 u9 : Value} (h : Bk R [u0, u1, u2, u3, u4, u5, u6, u7, u8, u9] w) (v0 v1 v2 v3 v4 v5 v6 v7 v8 v9 : Value) : Bk R [v0, v1, v2, v3, v4, v5, v6, v7, v8, v9] (put10 w R v0 v1 v2 v3 v4 v5 v6 v7 v8 v9) :=
  (((((((((h.put 0 v0).put 1 v1).put 2 v2).put 3 v3).put 4 v4).put 5 v5).put 6 v6).put 7 v7).put 8 v8).put 9 v9
abbrev z10 : List Value := [.slice none 0 0, .slice none 0 0, .slice none 0 0, .bool false, .slice none 0 0, .slice none 0 0, .int .i64 0, .int .i64 0, .int .i64 0, .pointer none]
def SvX (g sb b : Nat) (k : Nat) : Prop := k = g ∨ k = sb ∨ k = b + 1 ∨ k = b
/-- What is so while the saver is made, in whatever order the region goes. -/
def spJ (wB : World) (ao : Option Addr) (cap : Nat) (l : List Sit) (acs : List Acn) (t : Sm) (n0 : Nat) (dn : Nat → Bool) (f : Nat → Value) (w : World) : Prop :=
  (dn 8 = false →
    (dn 2 = true → ∃ aoL cp, f 24 = .slice aoL acs.length cp ∧ (acs = [] ∨ ∃ g, aoL = some ⟨g, 0, none⟩ ∧ acs.length ≤ cp ∧ cp ≤ maxLen ∧ n0 ≤ g ∧ Lf w g acs)) ∧
    (dn 5 = true → ∃ b, f 27 = ptr (b + 1) ∧ n0 ≤ b ∧ b + 1 < w.heap.size ∧ Fb (fun k => k = b + 1 ∨ k = b) wB w ao cap l (b + 1) b sta0) ∧
    (dn 7 = true → ∃ sb, f 9 = ptr sb ∧ n0 ≤ sb ∧ ∃ u0 u1 u2 u3 u4 u5 u6 u7 u8 u9, Bk sb [u0, u1, u2, u3, u4, u5, u6, u7, u8, u9] w) ∧
    (dn 2 = true → dn 5 = true → acs ≠ [] → ∀ g cp b, f 24 = .slice (some ⟨g, 0, none⟩) acs.length cp → f 27 = ptr (b + 1) → g ≠ b + 1 ∧ g ≠ b) ∧
    (dn 2 = true → dn 7 = true → acs ≠ [] → ∀ g cp sb, f 24 = .slice (some ⟨g, 0, none⟩) acs.length cp → f 9 = ptr sb → g ≠ sb) ∧
    (dn 5 = true → dn 7 = true → ∀ b sb, f 27 = ptr (b + 1) → f 9 = ptr sb → sb ≠ b + 1 ∧ sb ≠ b) ∧
    (dn 6 = true → dn 2 = true ∧ dn 5 = true)) ∧
  (dn 8 = true → (dn 7 = true ∧ dn 6 = true) ∧ ∃ sb, f 9 = ptr sb ∧ ((acs = [] ∧ ∃ aoL cp b, Bk sb [.slice ao l.length cap, .slice aoL 0 cp, .slice t.aoW t.wl.length t.capW, .bool t.tip, .slice t.aoH t.held.length t.capH, .slice t.aoT t.touched.length t.capT, .int .i64 t.used, .int .i64 t.heat, .int .i64 t.clock, ptr b] w) ∨ ∃ g cp b, Sv (SvX g sb b) wB w ao cap l sb g cp (b + 1) b acs t sta0))
theorem sl_inj {g g' n n' c c' : Nat} (h : Value.slice (some ⟨g, 0, none⟩) n c = .slice (some ⟨g', 0, none⟩) n' c') : g = g' := by injection h with h; injection h with h; injection h
section
variable {wB : World} {ao : Option Addr} {cap : Nat} {l : List Sit} {acs : List Acn} {t : Sm} {n0 : Nat} {dn : Nat → Bool} {f g : Nat → Value} {w w2 : World}
theorem spJ.same {i : Nat} (hJ : spJ wB ao cap l acs t n0 dn f w) (hi : i ≠ 2 ∧ i ≠ 5 ∧ i ≠ 6 ∧ i ≠ 7 ∧ i ≠ 8) (hg24 : g 24 = f 24) (hg27 : g 27 = f 27) (hg9 : g 9 = f 9) (hb : Below w.heap.size w w2) : spJ wB ao cap l acs t n0 (setD dn i) g w2 := by
  unfold spJ
  rw [setD_other (Ne.symm hi.1), setD_other (Ne.symm hi.2.1), setD_other (Ne.symm hi.2.2.1), setD_other (Ne.symm hi.2.2.2.1), setD_other (Ne.symm hi.2.2.2.2)]
  refine ⟨fun h => ?_, fun h => by obtain ⟨x, sb, u1, u2⟩ := hJ.2 h; refine ⟨x, sb, by rw [hg9]; exact u1, ?_⟩; rcases u2 with ⟨e, aoL, cp, b, u⟩ | ⟨g, cp, b, u⟩; exact .inl ⟨e, aoL, cp, b, u.later hb⟩; exact .inr ⟨g, cp, b, u.next hb⟩⟩
  obtain ⟨h1, h2, h3, h4, h5, h6, h7⟩ := hJ.1 h
  exact ⟨fun a => by obtain ⟨aoL, cp, u1, u2⟩ := h1 a; exact ⟨aoL, cp, by rw [hg24]; exact u1, u2.imp id fun ⟨g, v1, v2, v3, v4, v5⟩ => ⟨g, v1, v2, v3, v4, v5.next hb⟩⟩, fun a => by obtain ⟨b, u1, u2, u3, u4⟩ := h2 a; exact ⟨b, by rw [hg27]; exact u1, u2, Nat.lt_of_lt_of_le u3 hb.size, u4.next hb⟩, fun a => by obtain ⟨sb, u1, u2, v0, v1, v2, v3, v4, v5, v6, v7, v8, v9, u3⟩ := h3 a; exact ⟨sb, by rw [hg9]; exact u1, u2, v0, v1, v2, v3, v4, v5, v6, v7, v8, v9, u3.later hb⟩, fun a b c => by rw [hg24, hg27]; exact h4 a b c, fun a b c => by rw [hg24, hg9]; exact h5 a b c, fun a b => by rw [hg27, hg9]; exact h6 a b, h7⟩
theorem spJ.clone {v : Value} (hJ : spJ wB ao cap l acs t n0 dn f w) (hg24 : g 24 = v) (hg27 : g 27 = f 27) (hg9 : g 9 = f 9) (hv : OwnR encA w2 w.heap.size v acs) (hn : n0 ≤ w.heap.size) (hb : Below w.heap.size w w2) : spJ wB ao cap l acs t n0 (setD dn 2) g w2 := by
  unfold spJ
  rw [setD_same, setD_other (show 5 ≠ 2 by decide), setD_other (show 6 ≠ 2 by decide), setD_other (show 7 ≠ 2 by decide), setD_other (show 8 ≠ 2 by decide)]
  refine ⟨fun h => ?_, fun h => by obtain ⟨x, sb, u1, u2⟩ := hJ.2 h; refine ⟨x, sb, by rw [hg9]; exact u1, ?_⟩; rcases u2 with ⟨e, aoL, cp, b, u⟩ | ⟨g, cp, b, u⟩; exact .inl ⟨e, aoL, cp, b, u.later hb⟩; exact .inr ⟨g, cp, b, u.next hb⟩⟩
  obtain ⟨h1, h2, h3, h4, h5, h6, h7⟩ := hJ.1 h
  have hlo : acs ≠ [] → ∀ g' cp, v = .slice (some ⟨g', 0, none⟩) acs.length cp → w.heap.size ≤ g' := fun hne g' cp e => by
    obtain ⟨g2, cap2, e2, _, _, h2, _⟩ := lf_own hv hne
    rw [e] at e2
    rw [sl_inj e2]
    exact h2
  refine ⟨fun _ => ?_, fun a => by obtain ⟨b, u1, u2, u3, u4⟩ := h2 a; exact ⟨b, by rw [hg27]; exact u1, u2, Nat.lt_of_lt_of_le u3 hb.size, u4.next hb⟩, fun a => by obtain ⟨sb, u1, u2, v0, v1, v2, v3, v4, v5, v6, v7, v8, v9, u3⟩ := h3 a; exact ⟨sb, by rw [hg9]; exact u1, u2, v0, v1, v2, v3, v4, v5, v6, v7, v8, v9, u3.later hb⟩, fun _ b c g' cp b' e1 e2 => ?_, fun _ b c g' cp sb e1 e2 => ?_, fun a b => by rw [hg27, hg9]; exact h6 a b, fun a => ⟨rfl, (h7 a).2⟩⟩
  · by_cases hne : acs = []
    · obtain ⟨aoL, cp, e⟩ := hv.shape
      exact ⟨aoL, cp, by rw [hg24]; exact e, .inl hne⟩
    · obtain ⟨g2, cap2, e2, c1, c2, c3, c4⟩ := lf_own hv hne
      exact ⟨_, cap2, by rw [hg24]; exact e2, .inr ⟨g2, rfl, c1, c2, Nat.le_trans hn c3, c4⟩⟩
  · obtain ⟨b2, u1, u2, u3, _⟩ := h2 b
    rw [hg27, u1] at e2
    have := ptr_inj e2
    have := hlo c g' cp (by rw [← hg24]; exact e1)
    omega
  · obtain ⟨sb2, u1, u2, v0, v1, v2, v3, v4, v5, v6, v7, v8, v9, u3⟩ := h3 b
    rw [hg9, u1] at e2
    have := ptr_inj e2
    have := hlo c g' cp (by rw [← hg24]; exact e1)
    have := u3.1
    omega
theorem spJ.bench (hJ : spJ wB ao cap l acs t n0 dn f w) (hg24 : g 24 = f 24) (hg27 : g 27 = ptr (w.heap.size + 1)) (hg9 : g 9 = f 9) (hF : Fb (fun k => k = w.heap.size + 1 ∨ k = w.heap.size) wB w2 ao cap l (w.heap.size + 1) w.heap.size sta0) (hn : n0 ≤ w.heap.size) (hb : Below w.heap.size w w2) : spJ wB ao cap l acs t n0 (setD dn 5) g w2 := by
  unfold spJ
  rw [setD_same, setD_other (show 2 ≠ 5 by decide), setD_other (show 6 ≠ 5 by decide), setD_other (show 7 ≠ 5 by decide), setD_other (show 8 ≠ 5 by decide)]
  refine ⟨fun h => ?_, fun h => by obtain ⟨x, sb, u1, u2⟩ := hJ.2 h; refine ⟨x, sb, by rw [hg9]; exact u1, ?_⟩; rcases u2 with ⟨e, aoL, cp, b, u⟩ | ⟨g, cp, b, u⟩; exact .inl ⟨e, aoL, cp, b, u.later hb⟩; exact .inr ⟨g, cp, b, u.next hb⟩⟩
  obtain ⟨h1, h2, h3, h4, h5, h6, h7⟩ := hJ.1 h
  refine ⟨fun a => by obtain ⟨aoL, cp, u1, u2⟩ := h1 a; exact ⟨aoL, cp, by rw [hg24]; exact u1, u2.imp id fun ⟨g, v1, v2, v3, v4, v5⟩ => ⟨g, v1, v2, v3, v4, v5.next hb⟩⟩, fun _ => ⟨w.heap.size, hg27, hn, hF.low _ (.inl rfl), hF⟩, fun a => by obtain ⟨sb, u1, u2, v0, v1, v2, v3, v4, v5, v6, v7, v8, v9, u3⟩ := h3 a; exact ⟨sb, by rw [hg9]; exact u1, u2, v0, v1, v2, v3, v4, v5, v6, v7, v8, v9, u3.later hb⟩, fun a _ c g' cp b' e1 e2 => ?_, fun a b c => by rw [hg24, hg9]; exact h5 a b c, fun _ b b' sb e1 e2 => ?_, fun a => ⟨(h7 a).1, rfl⟩⟩
  · obtain ⟨aoL, cp2, u1, u2⟩ := h1 a
    rcases u2 with u2 | ⟨g3, v1, _, _, _, v5⟩
    · exact absurd u2 c
    · subst v1
      rw [hg24, u1] at e1
      rw [hg27] at e2
      have := ptr_inj e2
      have := sl_inj e1
      have := v5.1
      omega
  · obtain ⟨sb2, u1, u2, v0, v1, v2, v3, v4, v5, v6, v7, v8, v9, u3⟩ := h3 b
    rw [hg9, u1] at e2
    rw [hg27] at e1
    have := ptr_inj e2
    have := ptr_inj e1
    have := u3.1
    omega
theorem spJ.build (hJ : spJ wB ao cap l acs t n0 dn f w) (h2' : dn 2 = true) (h5' : dn 5 = true) (hg24 : g 24 = f 24) (hg27 : g 27 = f 27) (hg9 : g 9 = f 9) (hb : Below w.heap.size w w2) : spJ wB ao cap l acs t n0 (setD dn 6) g w2 := by
  unfold spJ
  rw [setD_same, setD_other (show 2 ≠ 6 by decide), setD_other (show 5 ≠ 6 by decide), setD_other (show 7 ≠ 6 by decide), setD_other (show 8 ≠ 6 by decide)]
  refine ⟨fun h => ?_, fun h => by obtain ⟨x, sb, u1, u2⟩ := hJ.2 h; refine ⟨⟨x.1, rfl⟩, sb, by rw [hg9]; exact u1, ?_⟩; rcases u2 with ⟨e, aoL, cp, b, u⟩ | ⟨g, cp, b, u⟩; exact .inl ⟨e, aoL, cp, b, u.later hb⟩; exact .inr ⟨g, cp, b, u.next hb⟩⟩
  obtain ⟨h1, h2, h3, h4, h5, h6, h7⟩ := hJ.1 h
  exact ⟨fun a => by obtain ⟨aoL, cp, u1, u2⟩ := h1 a; exact ⟨aoL, cp, by rw [hg24]; exact u1, u2.imp id fun ⟨g, v1, v2, v3, v4, v5⟩ => ⟨g, v1, v2, v3, v4, v5.next hb⟩⟩, fun a => by obtain ⟨b, u1, u2, u3, u4⟩ := h2 a; exact ⟨b, by rw [hg27]; exact u1, u2, Nat.lt_of_lt_of_le u3 hb.size, u4.next hb⟩, fun a => by obtain ⟨sb, u1, u2, v0, v1, v2, v3, v4, v5, v6, v7, v8, v9, u3⟩ := h3 a; exact ⟨sb, by rw [hg9]; exact u1, u2, v0, v1, v2, v3, v4, v5, v6, v7, v8, v9, u3.later hb⟩, fun a b c => by rw [hg24, hg27]; exact h4 a b c, fun a b c => by rw [hg24, hg9]; exact h5 a b c, fun a b => by rw [hg27, hg9]; exact h6 a b, fun _ => ⟨h2', h5'⟩⟩
theorem spJ.alloc (hJ : spJ wB ao cap l acs t n0 dn f w) (h7' : dn 7 = false) (hg24 : g 24 = f 24) (hg27 : g 27 = f 27) (hg9 : g 9 = ptr w.heap.size) (hn : n0 ≤ w.heap.size) : spJ wB ao cap l acs t n0 (setD dn 7) g (w.alloc (.cells z10.toArray 62)) := by
  have hb : Below w.heap.size w (w.alloc (.cells z10.toArray 62)) := (Below.refl _ _).alloc (Nat.le_refl _) _
  unfold spJ
  rw [setD_same, setD_other (show 2 ≠ 7 by decide), setD_other (show 5 ≠ 7 by decide), setD_other (show 6 ≠ 7 by decide), setD_other (show 8 ≠ 7 by decide)]
  refine ⟨fun h => ?_, fun h => by obtain ⟨x, _⟩ := hJ.2 h; rw [h7'] at x; cases x.1⟩
  obtain ⟨h1, h2, h3, h4, h5, h6, h7⟩ := hJ.1 h
  refine ⟨fun a => by obtain ⟨aoL, cp, u1, u2⟩ := h1 a; exact ⟨aoL, cp, by rw [hg24]; exact u1, u2.imp id fun ⟨g, v1, v2, v3, v4, v5⟩ => ⟨g, v1, v2, v3, v4, v5.next hb⟩⟩, fun a => by obtain ⟨b, u1, u2, u3, u4⟩ := h2 a; exact ⟨b, by rw [hg27]; exact u1, u2, Nat.lt_of_lt_of_le u3 hb.size, u4.next hb⟩, fun _ => ⟨w.heap.size, hg9, hn, _, _, _, _, _, _, _, _, _, _, Bk.new w z10 62 w.heap.size rfl⟩, fun a b c => by rw [hg24, hg27]; exact h4 a b c, fun a _ c g' cp sb e1 e2 => ?_, fun a _ b' sb e1 e2 => ?_, h7⟩
  · obtain ⟨aoL, cp2, u1, u2⟩ := h1 a
    rcases u2 with u2 | ⟨g3, v1, _, _, _, v5⟩
    · exact absurd u2 c
    · subst v1
      rw [hg24, u1] at e1
      rw [hg9] at e2
      have := ptr_inj e2
      have := sl_inj e1
      have := v5.1
      omega
  · obtain ⟨b2, u1, u2, u3, _⟩ := h2 a
    rw [hg27, u1] at e1
    rw [hg9] at e2
    have := ptr_inj e2
    have := ptr_inj e1
    omega
theorem spJ.store {sb b cp : Nat} {aoL : Option Addr} {u0 u1 u2 u3 u4 u5 u6 u7 u8 u9 : Value} (hJ : spJ wB ao cap l acs t n0 dn f w) (h8 : dn 8 = false) (h6' : dn 6 = true) (h7' : dn 7 = true) (hf9 : f 9 = ptr sb) (hf24 : f 24 = .slice aoL acs.length cp) (hf27 : f 27 = ptr (b + 1)) (hK : Bk sb [u0, u1, u2, u3, u4, u5, u6, u7, u8, u9] w) (hn : wB.heap.size ≤ n0)
    (ht : SmIn w t) (hto : ∀ B, n0 ≤ B → SmOff B t) (few : acs.length ≤ 3000) (ok : ∀ a ∈ acs, a.label.size ≤ maxLen ∧ (Lit.int .i64 a.kind).wf = true ∧ Wf3 a.pl) :
    spJ wB ao cap l acs t n0 (setD dn 8) f (put10 w sb (.slice ao l.length cap) (.slice aoL acs.length cp) (.slice t.aoW t.wl.length t.capW) (.bool t.tip) (.slice t.aoH t.held.length t.capH) (.slice t.aoT t.touched.length t.capT) (.int .i64 t.used) (.int .i64 t.heat) (.int .i64 t.clock) (ptr (b + 1))) := by
  obtain ⟨h1, h2, h3, h4, h5, h6, h7⟩ := hJ.1 h8
  obtain ⟨d2, d5⟩ := h7 h6'
  unfold spJ
  rw [setD_same, setD_other (show 2 ≠ 8 by decide), setD_other (show 5 ≠ 8 by decide), setD_other (show 6 ≠ 8 by decide), setD_other (show 7 ≠ 8 by decide)]
  refine ⟨fun h => (by cases h), fun _ => ⟨⟨h7', h6'⟩, sb, hf9, ?_⟩⟩
  have hbu := but_put10 sb w (.slice ao l.length cap) (.slice aoL acs.length cp) (.slice t.aoW t.wl.length t.capW) (.bool t.tip) (.slice t.aoH t.held.length t.capH) (.slice t.aoT t.touched.length t.capT) (.int .i64 t.used) (.int .i64 t.heat) (.int .i64 t.clock) (ptr (b + 1))
  have K := hK.put10 (.slice ao l.length cap) (.slice aoL acs.length cp) (.slice t.aoW t.wl.length t.capW) (.bool t.tip) (.slice t.aoH t.held.length t.capH) (.slice t.aoT t.touched.length t.capT) (.int .i64 t.used) (.int .i64 t.heat) (.int .i64 t.clock) (ptr (b + 1))
  by_cases hne : acs = []
  · subst hne
    exact .inl ⟨rfl, aoL, cp, b + 1, K⟩
  · refine .inr ?_
    obtain ⟨aoL2, cp2, u1, u2⟩ := h1 d2
    rw [hf24] at u1
    injection u1 with u1a _ u1c
    subst u1a u1c
    rcases u2 with u2 | ⟨g, rfl, c1, c2, c3, c4⟩
    · exact absurd u2 hne
    obtain ⟨b2, w1, w3, w4, w5⟩ := h2 d5
    rw [hf27] at w1
    have hbb : b2 = b := by have := ptr_inj w1; omega
    subst hbb
    obtain ⟨sb2, y1, y2, _⟩ := h3 h7'
    rw [hf9] at y1
    have hss := ptr_inj y1
    have e1 := h4 d2 d5 hne g cp b2 hf24 hf27
    have e2 := h5 d2 h7' hne g cp sb hf24 hf9
    have e3 := h6 d5 h7' b2 sb hf27 hf9
    have hsl := hK.1
    have hgl := c4.1
    have hF : Fb (SvX g sb b2) wB w ao cap l (b2 + 1) b2 sta0 := w5.zero (fun k hk => by rcases hk with rfl | rfl | rfl | rfl <;> omega) ⟨.inr (.inr (.inl rfl)), .inr (.inr (.inr rfl))⟩
    refine ⟨g, cp, b2, ⟨K, c4.same hbu.size (hbu.block g hgl e2 e2), ⟨c1, c2⟩, hF.but hbu ⟨.inr (.inl rfl), .inr (.inl rfl)⟩ ⟨by omega, by omega⟩ ⟨⟨Ne.symm e3.1, Ne.symm e3.1⟩, Ne.symm e3.2, Ne.symm e3.2⟩,
      fun k hk => hto k ?_, ht.but' (hto sb (by omega)) hbu, ⟨.inl rfl, .inr (.inl rfl)⟩, ⟨e2, e1, e3⟩, ⟨by omega, by omega⟩, few, ok⟩⟩
    rcases hk with rfl | rfl | rfl | rfl <;> omega
theorem zfree (hJ : spJ wB ao cap l acs t n0 dn f w) (h6 : dn 6 = false) : dn 8 = false := by
  cases h : dn 8 with
  | false => rfl
  | true => have := (hJ.2 h).1.2; rw [h6] at this; cases this
end
set_option linter.unusedVariables false in
def spV (nl cap na capA : Nat) (ao aoA : Option Addr) (t : Sm) (i : Nat) (l : List Value) (w : World) : Prop :=
  match i, l with
  | 0, [v] => v = .slice ao nl cap
  | 1, [v] => v = .slice aoA na capA
  | 2, [_] => True
  | 3, [v] => v = .agg #[.slice t.aoW t.wl.length t.capW, .bool t.tip, .slice t.aoH t.held.length t.capH, .slice t.aoT t.touched.length t.capT, .int .i64 t.used, .int .i64 t.heat, .int .i64 t.clock]
  | 4, [v] => v = .slice ao nl cap
  | 5, [_] => True
  | 6, [u, v, x] => ∃ aoL cp b, u = .slice aoL na cp ∧ v = ptr (b + 1) ∧ x = .agg #[.slice ao nl cap, .slice aoL na cp, .slice t.aoW t.wl.length t.capW, .bool t.tip, .slice t.aoH t.held.length t.capH, .slice t.aoT t.touched.length t.capT, .int .i64 t.used, .int .i64 t.heat, .int .i64 t.clock, ptr (b + 1)]
  | 7, [_] => True
  | _, _ => True
set_option linter.unusedVariables false in
theorem spV_free (nl cap na capA : Nat) (ao aoA : Option Addr) (t : Sm) (i : Nat) (l : List Value) (w w' : World) (h : spV nl cap na capA ao aoA t i l w) : spV nl cap na capA ao aoA t i l w' := h
theorem run_ok {l : List Sit} {acs : List Acn} (h : (runR l acs).2.2 = 0) : dchk l = 0 ∧ runO l acs sta0 = some (runR l acs).1 := by
  by_cases hd : dchk l = 0
  · have e1 : runR l acs = runA l sta0 0 acs := if_pos hd
    rw [e1] at h ⊢
    exact ⟨hd, runA_some _ _ _ h⟩
  · have e1 : runR l acs = (sta0, 0, dchk l) := if_neg hd
    rw [e1] at h
    exact absurd h hd
/-- With nothing left there is nothing to save. -/
theorem save_none (sb : Nat) (aoL : Option Addr) (cp : Nat) (v0 : Value) (vs : List Value) (w : World) (h : Bk sb (v0 :: .slice aoL 0 cp :: vs) w) : Calls Tryz.prog 24 #[ptr sb] w fun r w' => r = .returned (.tuple #[]) ∧ w' = w := by
  have z1 := h.c 1 rfl
  clear h
  go_enter Tryz.func24, Tryz.ntmps24
  go_wp2
  go_loopw [2, 3] (fun q2 q3 wr => q2 = .int .i64 0 ∧ q3 = .int .i64 0 ∧ wr = w) (fun _ _ _ => 0)
  case atStart => exact ⟨rfl, rfl, rfl⟩
  case round =>
    obtain ⟨rfl, rfl, hwr⟩ := hrel
    subst hwr
    go_wp2
    refine bodyPost_end (results_none rfl _ _ _) rfl ?_
    exact ⟨rfl, rfl⟩
set_option maxHeartbeats 12800000 in
set_option maxRecDepth 100000 in
theorem flowSave_any (ao : Option Addr) (cap : Nat) (l : List Sit) (aoA : Option Addr) (capA : Nat) (acs : List Acn) (w : World) (hD : Dk w ao cap l) (hln : l.length ≤ 9223372036854775807) (hA : Acs w aoA acs) (hW : ∀ a ∈ acs, Wf3 a.pl) (hla : acs.length ≤ 9223372036854775807) :
    Calls Tryz.prog 6 #[.slice ao l.length cap, .slice aoA acs.length capA] w fun r w' => Below w.heap.size w w' ∧ ((3000 < acs.length ∧ r = .returned (.tuple #[.slice none 0 0, .int .i64 7])) ∨ (acs.length ≤ 3000 ∧ (runR l acs).2.2 ≠ 0 ∧ r = .returned (.tuple #[.slice none 0 0, .int .i64 17])) ∨
      (acs.length ≤ 3000 ∧ (runR l acs).2.2 = 0 ∧ ∃ aoS capS, r = .returned (.tuple #[.slice aoS (saveF l (runR l acs).1 acs 0 0).length capS, .int .i64 0]) ∧ Acs w' aoS (saveF l (runR l acs).1 acs 0 0))) := by
  by_cases hbig : 3000 < acs.length
  · have hb2 : (3000 : Int) < (acs.length : Int) := by omega
    go_enter Tryz.func6, Tryz.ntmps6
    go_wp2
    go_ret2
    first | exact ⟨Below.refl _ _, .inl ⟨hbig, rfl⟩⟩ | exact ⟨rfl, Below.refl _ _, .inl ⟨hbig, rfl⟩⟩
  have hl : acs.length ≤ 3000 := by omega
  have hb2 : ¬ (3000 : Int) < (acs.length : Int) := by omega
  have HD : Hid (Dk w ao cap l) := hD
  have HA : Hid (Acs w aoA acs) := hA
  have HFEW : Hid (acs.length ≤ 3000) := hl
  have HLS : Hid (acs.length ≤ 1000000) := by show _ ≤ _; omega
  have HOK : Hid (∀ a ∈ acs, a.label.size ≤ maxLen ∧ (Lit.int .i64 a.kind).wf = true ∧ Wf3 a.pl) := fun a ha => ⟨(hA.ok a ha).1, (hA.ok a ha).2, hW a ha⟩
  have HRN : Hid (Calls Tryz.prog 17 #[.slice ao l.length cap, .slice aoA acs.length capA] w fun e w' => ∃ t : Sm, e = .returned (.tuple #[smv t, .int .i64 ((runR l acs).2.1 : Int), .int .i64 (runR l acs).2.2]) ∧ t.st = (runR l acs).1 ∧ SmIn w' t ∧ SmHi w.heap.size t ∧ Below w.heap.size w w') := run_any ao cap l aoA capA acs w hD hln hA hla
  have HRO : Hid ((runR l acs).2.2 = 0 → dchk l = 0 ∧ runO l acs sta0 = some (runR l acs).1) := run_ok
  clear hD hA hW hbig
  generalize runR l acs = rr at *
  obtain ⟨st1, k1, e1⟩ := rr
  simp only at HRN HRO ⊢
  go_enter Tryz.func6, Tryz.ntmps6
  go_wp2_with fail
  refine Calls.mono HRN.out ?_
  rintro r w1 ⟨t, rfl, hst, hin, hhi, hb1⟩
  obtain ⟨w3, hw3⟩ : ∃ x, x = w1.alloc (.cells (sml t).toArray 40) := ⟨_, rfl⟩
  have b3 : Below w1.heap.size w1 w3 := by rw [hw3]; exact (Below.refl _ _).alloc (Nat.le_refl _) _
  have HB3 : Hid (Below w.heap.size w w3) := below_on hb1 b3
  have HT : Hid (SmIn w3 t) := hin.next b3
  have HST : Hid (t.st = st1) := hst
  have KT : Hid (Bk w1.heap.size (sml t) w3) := by show Bk _ _ _; rw [hw3]; exact Bk.new w1 (sml t) 40 w1.heap.size rfl
  have HTO : Hid (∀ B, w3.heap.size ≤ B → SmOff B t) := fun B hB => HT.out.off hB
  have HW3 : Hid (w3 = _) := hw3
  clear hst hin hhi hb1 b3 hw3
  by_cases he : e1 = 0
  rotate_left
  · have h2 : (e1 == 0) = false := by simp [he]
    have h3 : (e1 != 0) = true := by simp [he]
    have HE : Hid (e1 ≠ 0) := he
    clear he
    go_wp2
    go_ret2
    first | exact ⟨by have := HB3.out; rw [HW3.out] at this; exact this, .inr (.inl ⟨hl, HE.out, rfl⟩)⟩ | exact ⟨rfl, by have := HB3.out; rw [HW3.out] at this; exact this, .inr (.inl ⟨hl, HE.out, rfl⟩)⟩
  · subst he
    obtain ⟨hd0, hro⟩ := HRO.out rfl
    have HD0 : Hid (dchk l = 0) := hd0
    have HRU : Hid (runO l acs sta0 = some st1) := hro
    clear hd0 hro
    go_wp2_with fail
    rw [← HW3.out]
    refine region_done [false, false, false, false, false, false, false, false, false, true, false, false, false, false, false, false, false, false, false, false, false, false, true, true, true, true, true, true, true, false, false, false]
      [([], [22], none), ([], [23], none), ([1], [24], none), ([], [25], none), ([], [26], none), ([4], [27], none), ([0, 2, 3, 5], [24, 27, 28], none), ([], [9], none), ([7, 6], [], none)]
      (spV l.length cap acs.length capA ao aoA t) (spJ w ao cap l acs t w3.heap.size) (by kernel_rfl) (by kernel_rfl) (fun dn f w hd _ => ⟨fun _ => ⟨fun h => absurd ((hd 2).symm.trans h) (by decide), fun h => absurd ((hd 5).symm.trans h) (by decide), fun h => absurd ((hd 7).symm.trans h) (by decide), fun h => absurd ((hd 2).symm.trans h) (by decide), fun h => absurd ((hd 2).symm.trans h) (by decide), fun h => absurd ((hd 5).symm.trans h) (by decide), fun h => absurd ((hd 6).symm.trans h) (by decide)⟩, fun h => absurd ((hd 8).symm.trans h) (by decide)⟩) ?_ ?_
    · refine ⟨?_, ?_, ?_, ?_, ?_, ?_, ?_, ?_, ?_, trivial⟩
      · intro dn f w1 hdn hpn hb hJ _ K hK
        simp only [over, overL, Nat.reduceAdd]
        go_simp
        exact hK _ _ ⟨_, by simp only [over, overL, Nat.reduceAdd]; rfl, rfl, hb, hJ.same ⟨by decide, by decide, by decide, by decide, by decide⟩ (updO_other (by decide)) (updO_other (by decide)) (updO_other (by decide)) (Below.refl _ _), fun _ h => h⟩
      · intro dn f w1 hdn hpn hb hJ _ K hK
        simp only [over, overL, Nat.reduceAdd]
        go_simp
        exact hK _ _ ⟨_, by simp only [over, overL, Nat.reduceAdd]; rfl, rfl, hb, hJ.same ⟨by decide, by decide, by decide, by decide, by decide⟩ (updO_other (by decide)) (updO_other (by decide)) (updO_other (by decide)) (Below.refl _ _), fun _ h => h⟩
      · intro dn f w1 hdn hpn hb hJ ⟨h23, _⟩ K hK
        replace h23 : f 23 = _ := h23
        simp only [over, overL, Nat.reduceAdd, h23]
        go_simp
        refine (cloneA_any aoA capA acs w1 (HA.out.next (below_on HB3.out hb)).rd HLS.out).mono ?_
        rintro e w2 ⟨v, rfl, hv, hb2⟩
        exact hK _ _ ⟨_, by simp only [over, overL, Nat.reduceAdd, h23]; rfl, trivial, below_on hb hb2, hJ.clone rfl (updO_other (by decide)) (updO_other (by decide)) hv hb.size hb2, fun q_ h => spV_free l.length cap acs.length capA ao aoA t q_ _ _ _ h⟩
      · intro dn f w1 hdn hpn hb hJ _ K hK
        have q0 := (KT.out.later hb).c 0 rfl
        have q1 := (KT.out.later hb).c 1 rfl
        have q2 := (KT.out.later hb).c 2 rfl
        have q3 := (KT.out.later hb).c 3 rfl
        have q4 := (KT.out.later hb).c 4 rfl
        have q5 := (KT.out.later hb).c 5 rfl
        have q6 := (KT.out.later hb).c 6 rfl
        simp only [over, overL, Nat.reduceAdd]
        go_simp
        exact hK _ _ ⟨_, by simp only [over, overL, Nat.reduceAdd]; rfl, rfl, hb, hJ.same ⟨by decide, by decide, by decide, by decide, by decide⟩ (updO_other (by decide)) (updO_other (by decide)) (updO_other (by decide)) (Below.refl _ _), fun _ h => h⟩
      · intro dn f w1 hdn hpn hb hJ _ K hK
        simp only [over, overL, Nat.reduceAdd]
        go_simp
        exact hK _ _ ⟨_, by simp only [over, overL, Nat.reduceAdd]; rfl, rfl, hb, hJ.same ⟨by decide, by decide, by decide, by decide, by decide⟩ (updO_other (by decide)) (updO_other (by decide)) (updO_other (by decide)) (Below.refl _ _), fun _ h => h⟩
      · intro dn f w1 hdn hpn hb hJ ⟨h26, _⟩ K hK
        replace h26 : f 26 = _ := h26
        simp only [over, overL, Nat.reduceAdd, h26]
        go_simp
        refine (newBenchF_any (fun k => k = w1.heap.size + 1 ∨ k = w1.heap.size) ao cap l w w1 HD.out HD0.out (below_on HB3.out hb) (fun _ => Iff.rfl)).mono ?_
        rintro e w2 ⟨rfl, hb2, hF⟩
        exact hK _ _ ⟨_, by simp only [over, overL, Nat.reduceAdd, h26]; rfl, trivial, below_on hb hb2, hJ.bench (updO_other (by decide)) rfl (updO_other (by decide)) hF hb.size hb2, fun q_ h => spV_free l.length cap acs.length capA ao aoA t q_ _ _ _ h⟩
      · intro dn f w1 hdn hpn hb hJ ⟨h22, h24, h25, h27, _⟩ K hK
        replace h22 : f 22 = _ := h22
        replace h25 : f 25 = _ := h25
        obtain ⟨d1, d2, _⟩ := hJ.1 (zfree hJ hdn)
        obtain ⟨aoL, cp, h24, _⟩ := d1 (hpn 2 (by simp))
        obtain ⟨b, h27, _⟩ := d2 (hpn 5 (by simp))
        have H24 : Hid (f 24 = _ ∧ f 27 = _) := ⟨h24, h27⟩
        simp only [over, overL, Nat.reduceAdd, h22, h25, h24, h27]
        go_simp
        exact hK _ _ ⟨_, by simp only [over, overL, Nat.reduceAdd, h22, h25, h24, h27]; rfl, ⟨aoL, cp, b, H24.out.1, H24.out.2, rfl⟩, hb, hJ.build (hpn 2 (by simp)) (hpn 5 (by simp)) (updO_other (by decide)) (updO_other (by decide)) (updO_other (by decide)) (Below.refl _ _), fun _ h => h⟩
      · intro dn f w1 hdn hpn hb hJ _ K hK
        simp only [over, overL, Nat.reduceAdd]
        go_simp
        exact hK _ _ ⟨_, by simp only [over, overL, Nat.reduceAdd]; rfl, trivial, below_on hb ((Below.refl _ _).alloc (Nat.le_refl _) _), hJ.alloc hdn (updO_other (by decide)) (updO_other (by decide)) rfl hb.size, fun q_ h => spV_free l.length cap acs.length capA ao aoA t q_ _ _ _ h⟩
      · intro dn f w1 hdn hpn hb hJ ⟨h9, h28, _⟩ K hK
        obtain ⟨d1, d2, d3, _⟩ := hJ.1 hdn
        obtain ⟨aoL, cp, b, h24, h27, h28⟩ := (show ∃ aoL cp b, f 24 = .slice aoL acs.length cp ∧ f 27 = ptr (b + 1) ∧ f 28 = .agg #[.slice ao l.length cap, .slice aoL acs.length cp, .slice t.aoW t.wl.length t.capW, .bool t.tip, .slice t.aoH t.held.length t.capH, .slice t.aoT t.touched.length t.capT, .int .i64 t.used, .int .i64 t.heat, .int .i64 t.clock, ptr (b + 1)] from h28)
        obtain ⟨sb, h9, hsb, u0, u1, u2, u3, u4, u5, u6, u7, u8, u9, AB⟩ := d3 (hpn 7 (by simp))
        have H24 : Hid (f 24 = _ ∧ f 27 = _) := ⟨h24, h27⟩
        clear h24 h27 d1 d2 d3
        have q0 := AB.c 0 rfl
        have q1 := AB.c 1 rfl
        have q2 := AB.c 2 rfl
        have q3 := AB.c 3 rfl
        have q4 := AB.c 4 rfl
        have q5 := AB.c 5 rfl
        have q6 := AB.c 6 rfl
        have q7 := AB.c 7 rfl
        have q8 := AB.c 8 rfl
        have q9 := AB.c 9 rfl
        have qf0 := AB.f 0 rfl
        have qf1 := AB.f 1 rfl
        have qf2 := AB.f 2 rfl
        have qf3 := AB.f 3 rfl
        have qf4 := AB.f 4 rfl
        have qf5 := AB.f 5 rfl
        have qf6 := AB.f 6 rfl
        have qf7 := AB.f 7 rfl
        have qf8 := AB.f 8 rfl
        have qf9 := AB.f 9 rfl
        simp only [over, overL, Nat.reduceAdd, h9, h28]
        go_simp
        refine hK _ _ ⟨undef, by simp only [over, overL, Nat.reduceAdd, h9, h28]; rfl, trivial, (but_put10 sb w1 _ _ _ _ _ _ _ _ _ _).below hb hsb hsb hb.size, hJ.store hdn (hpn 6 (by simp)) (hpn 7 (by simp)) h9 H24.out.1 H24.out.2 AB HB3.out.size (HT.out.next hb) HTO.out HFEW.out HOK.out, fun q_ h => spV_free l.length cap acs.length capA ao aoA t q_ _ _ _ h⟩
    intro dn f w6 hdn hb6 hJ hv
    obtain ⟨_, sb, h9, hfin⟩ := hJ.2 (hdn 8 (by simp))
    have HB6 : Hid (Below w.heap.size w w6) := below_on HB3.out hb6
    clear hJ hv hdn hb6
    simp only [over, overL, Nat.reduceAdd, h9]
    clear h9
    rcases hfin with ⟨hnil, aoL, cp, b, hK⟩ | ⟨g, cp, b, hS⟩
    · have HK : Hid (Bk sb (.slice ao l.length cap :: .slice aoL 0 cp :: [.slice t.aoW t.wl.length t.capW, .bool t.tip, .slice t.aoH t.held.length t.capH, .slice t.aoT t.touched.length t.capT, .int .i64 t.used, .int .i64 t.heat, .int .i64 t.clock, ptr b]) w6) := hK
      have HSV := (show Hid _ from save_none sb aoL cp _ _ w6 hK)
      have HNIL : Hid (saveF l st1 acs 0 0 = []) := by show _ = _; rw [hnil]; rfl
      clear hK hnil
      have z0 := (HK.out).c 0 rfl
      have z1 := (HK.out).c 1 rfl
      have z2 := (HK.out).c 2 rfl
      have z3 := (HK.out).c 3 rfl
      have z4 := (HK.out).c 4 rfl
      have z5 := (HK.out).c 5 rfl
      have z6 := (HK.out).c 6 rfl
      have z7 := (HK.out).c 7 rfl
      have z8 := (HK.out).c 8 rfl
      have z9 := (HK.out).c 9 rfl
      go_wp2_with fail
      refine Calls.mono HSV.out ?_
      rintro r w7 ⟨rfl, rfl⟩
      go_wp2
      go_ret2
      exact ⟨HB6.out, .inr ⟨aoL, ⟨cp, by rw [HNIL.out]; rfl⟩, by rw [HNIL.out]; exact ⟨.inl rfl, fun _ h => by cases h⟩⟩⟩
    · have HS := (show Hid _ from save_any _ w w6 ao cap l sb g cp (b + 1) b acs t st1 hS HRU.out (by rw [HST.out, alike_iff]; exact ⟨rfl, rfl, rfl⟩))
      clear hS
      go_wp2_with fail
      refine Calls.mono HS.out ?_
      rintro r w7 ⟨rfl, st', hS7⟩
      rw [HST.out] at hS7
      obtain ⟨S, hSS⟩ : ∃ S, S = saveF l st1 acs 0 0 := ⟨_, rfl⟩
      rw [← hSS] at hS7
      have HSS : Hid (S = saveF l st1 acs 0 0) := hSS
      clear hSS
      have HS7 : Hid (Sv (SvX g sb b) w w7 ao cap l sb g cp (b + 1) b S t st') := hS7
      clear hS7
      have z0 := (HS7.out.bk).c 0 rfl
      have z1 := (HS7.out.bk).c 1 rfl
      have z2 := (HS7.out.bk).c 2 rfl
      have z3 := (HS7.out.bk).c 3 rfl
      have z4 := (HS7.out.bk).c 4 rfl
      have z5 := (HS7.out.bk).c 5 rfl
      have z6 := (HS7.out.bk).c 6 rfl
      have z7 := (HS7.out.bk).c 7 rfl
      have z8 := (HS7.out.bk).c 8 rfl
      have z9 := (HS7.out.bk).c 9 rfl
      go_wp2
      go_ret2
      exact ⟨HS7.out.fb.below, .inr ⟨some ⟨g, 0, none⟩, ⟨cp, by rw [← HSS.out]; rfl⟩, by rw [← HSS.out]; exact ⟨HS7.out.lf.rd, fun a ha => ⟨(HS7.out.ok a ha).1, (HS7.out.ok a ha).2.1⟩⟩⟩⟩
end Go.Proofs.YtgbnjgenopdmfaaGreat

/- What flow does, plainly: shares of what was drawn, pairs, what is reached. -/
namespace Go.Proofs.YtgbnjgenopdmfaaGreat.L
/-- How much of what one Draw drew a Put puts: both by their numbers. -/
structure Shr where
  draw : Nat
  put : Nat
  vol : Int
/-- The first of what is held, at most all of it. -/
def ptR (i : Nat) : Int → List (Nat × Int) → List Shr × List (Nat × Int)
  | _, [] => ([], [])
  | v, (d, x) :: r => if 0 < v then (if v < x then ([⟨d, i, v⟩], (d, x - v) :: r) else (⟨d, i, x⟩ :: (ptR i (v - x) r).1, (ptR i (v - x) r).2)) else ([], (d, x) :: r)
/-- Whether there is a tip, and what is left in it of which Draws. -/
structure Tp where
  on : Bool
  held : List (Nat × Int)
abbrev tp0 : Tp := ⟨false, []⟩
def folR (i : Nat) (a : Acn) (t : Tp) : List Shr × Tp :=
  if a.kind = 6 then ([], ⟨true, []⟩) else if a.kind = 7 then ([], tp0)
  else if t.on = true ∧ 1 ≤ a.vol ∧ a.vol ≤ 1000000000 then
    (if a.kind = 8 then ([], ⟨true, t.held ++ [(i, a.vol)]⟩) else if a.kind = 9 then ((ptR i a.vol t.held).1, ⟨true, (ptR i a.vol t.held).2⟩) else ([], t))
  else ([], t)
def shrR : Nat → Tp → List Acn → List Shr
  | _, _, [] => []
  | i, t, a :: r => (folR i a t).1 ++ shrR (i + 1) (folR i a t).2 r
def tipR : Nat → Tp → List Acn → Tp
  | _, t, [] => t
  | i, t, a :: r => tipR (i + 1) (folR i a t).2 r
abbrev shares (l : List Acn) : List Shr := shrR 0 tp0 l
theorem shrR_append (i : Nat) (t : Tp) (a b : List Acn) : shrR i t (a ++ b) = shrR i t a ++ shrR (i + a.length) (tipR i t a) b := by
  induction a generalizing i t with
  | nil => simp [shrR, tipR]
  | cons x r ih => simp only [List.cons_append, shrR, tipR, ih, List.append_assoc, List.length_cons]; rw [show i + 1 + r.length = i + (r.length + 1) from by omega]
theorem tipR_append (i : Nat) (t : Tp) (a b : List Acn) : tipR i t (a ++ b) = tipR (i + a.length) (tipR i t a) b := by
  induction a generalizing i t with
  | nil => simp [tipR]
  | cons x r ih => simp only [List.cons_append, tipR, ih, List.length_cons]; rw [show i + 1 + r.length = i + (r.length + 1) from by omega]
theorem shares_snoc (l : List Acn) (a : Acn) : shares (l ++ [a]) = shares l ++ (folR l.length a (tipR 0 tp0 l)).1 := by
  rw [shares, shrR_append]; simp [shrR]
theorem tip_snoc (l : List Acn) (a : Acn) : tipR 0 tp0 (l ++ [a]) = (folR l.length a (tipR 0 tp0 l)).2 := by
  rw [tipR_append]; simp [tipR]
/-- What is held was drawn by those numbers, each with something left. -/
def HOk (n : Nat) (h : List (Nat × Int)) : Prop := ∀ x ∈ h, x.1 < n ∧ 1 ≤ x.2 ∧ x.2 ≤ 1000000000
theorem HOk.mono {n m : Nat} {h : List (Nat × Int)} (hh : HOk n h) (hn : n ≤ m) : HOk m h := fun x hx => ⟨Nat.lt_of_lt_of_le (hh x hx).1 hn, (hh x hx).2⟩
theorem ptR_ok {n i : Nat} {v : Int} {h : List (Nat × Int)} (hh : HOk n h) (hv : v ≤ 1000000000) :
    HOk n (ptR i v h).2 ∧ ∀ s ∈ (ptR i v h).1, s.draw < n ∧ s.put = i ∧ 1 ≤ s.vol ∧ s.vol ≤ 1000000000 := by
  induction h generalizing v with
  | nil => simp [ptR, HOk]
  | cons x r ih =>
    obtain ⟨d, y⟩ := x
    have h1 := hh (d, y) (by simp)
    have h2 : HOk n r := fun z hz => hh z (by simp [hz])
    simp only at h1
    unfold ptR
    split
    · rename_i hp
      split
      · rename_i hlt
        refine ⟨?_, ?_⟩
        · intro z hz
          rcases List.mem_cons.1 hz with rfl | hz
          · simp only; omega
          · exact h2 z hz
        · intro s hs
          simp only [List.mem_singleton] at hs
          subst hs
          exact ⟨h1.1, rfl, by show (1 : Int) ≤ v; omega, hv⟩
      · rename_i hge
        have h3 := ih (v := v - y) h2 (by omega)
        refine ⟨h3.1, ?_⟩
        intro s hs
        rcases List.mem_cons.1 hs with rfl | hs
        · exact ⟨h1.1, rfl, h1.2⟩
        · exact h3.2 s hs
    · refine ⟨hh, ?_⟩
      intro s hs
      cases hs
theorem folR_ok {i : Nat} {a : Acn} {t : Tp} (h : HOk i t.held) : HOk (i + 1) (folR i a t).2.held ∧ ∀ s ∈ (folR i a t).1, s.draw < i + 1 ∧ s.put = i ∧ 1 ≤ s.vol ∧ s.vol ≤ 1000000000 := by
  unfold folR
  split
  · exact ⟨fun x hx => by simp at hx, fun s hs => by simp at hs⟩
  · split
    · exact ⟨fun x hx => by simp at hx, fun s hs => by simp at hs⟩
    · split
      · rename_i hv
        split
        · refine ⟨fun x hx => ?_, fun s hs => by simp at hs⟩
          rcases List.mem_append.1 hx with hx | hx
          · exact h.mono (Nat.le_succ _) x hx
          · simp only [List.mem_singleton] at hx
            subst hx
            simp only; omega
        · split
          · have := ptR_ok (i := i) (h.mono (Nat.le_succ i)) hv.2.2
            exact this
          · exact ⟨h.mono (Nat.le_succ _), fun s hs => by simp at hs⟩
      · exact ⟨h.mono (Nat.le_succ _), fun s hs => by simp at hs⟩
theorem tip_ok (l : List Acn) : HOk l.length (tipR 0 tp0 l).held := by
  have : ∀ n, ∀ m, m = n → m ≤ l.length → HOk m (tipR 0 tp0 (l.take m)).held := by
    intro n
    induction n with
    | zero => rintro m rfl _; intro x hx; simp [tipR] at hx
    | succ n ih =>
      rintro m rfl hm
      have e : l.take (n + 1) = l.take n ++ [l[n]'(by omega)] := by rw [List.take_succ_eq_append_getElem]
      rw [e, tip_snoc]
      have h1 := ih n rfl (by omega)
      have h2 := (folR_ok (a := l[n]'(by omega)) h1).1
      have e2 : (l.take n).length = n := by rw [List.length_take]; omega
      rw [e2]
      exact h2
  have h := this l.length l.length rfl (Nat.le_refl _)
  rwa [List.take_length] at h
/-- What a share is. -/
def ShOk (n : Nat) (s : Shr) : Prop := s.draw < n ∧ s.put < n ∧ s.draw ≤ s.put ∧ 1 ≤ s.vol ∧ s.vol ≤ 1000000000
theorem shares_ok (l : List Acn) : ∀ s ∈ shares l, ShOk l.length s := by
  have : ∀ n, n ≤ l.length → ∀ s ∈ shares (l.take n), ShOk n s := by
    intro n
    induction n with
    | zero => intro _ s hs; simp [shares, shrR] at hs
    | succ n ih =>
      intro hm s hs
      have e : l.take (n + 1) = l.take n ++ [l[n]'(by omega)] := by rw [List.take_succ_eq_append_getElem]
      rw [e, shares_snoc] at hs
      have e2 : (l.take n).length = n := by rw [List.length_take]; omega
      rcases List.mem_append.1 hs with hs | hs
      · obtain ⟨h1, h2, h3, h4⟩ := ih (by omega) s hs
        exact ⟨by omega, by omega, h3, h4⟩
      · rw [e2] at hs
        have h0 := tip_ok (l.take n)
        rw [e2] at h0
        obtain ⟨h1, h2, h3⟩ := (folR_ok (a := l[n]'(by omega)) h0).2 s hs
        exact ⟨h1, by omega, by omega, h3⟩
  have h := this l.length (Nat.le_refl _)
  rwa [List.take_length] at h
theorem shares_take {l : List Acn} {n : Nat} : shares (l.take n) <+: shares l := by
  have e : l = l.take n ++ l.drop n := (List.take_append_drop n l).symm
  conv => rhs; rw [e, shares, shrR_append]
  exact ⟨_, rfl⟩

/-! ### sums -/
def volsR : List Shr → Int
  | [] => 0
  | s :: r => s.vol + volsR r
theorem volsR_append (a b : List Shr) : volsR (a ++ b) = volsR a + volsR b := by
  induction a with
  | nil => simp [volsR]
  | cons x r ih => simp only [List.cons_append, volsR, ih]; omega
theorem snocInd {α : Type} {p : List α → Prop} (h0 : p []) (h1 : ∀ l a, p l → p (l ++ [a])) : ∀ l, p l := by
  have : ∀ n, ∀ l : List α, l.length = n → p l := by
    intro n
    induction n with
    | zero => intro l hl; rw [List.eq_nil_of_length_eq_zero hl]; exact h0
    | succ n ih =>
      intro l hl
      have hne : l ≠ [] := by intro e; rw [e] at hl; cases hl
      rw [← List.dropLast_concat_getLast hne]
      exact h1 _ _ (ih _ (by rw [List.length_dropLast]; omega))
  exact fun l => this _ l rfl
/-! ### what is reached -/
end Go.Proofs.YtgbnjgenopdmfaaGreat.L
