/- workcellref.movesOf walked. -/
import Derived.Test.YtgbnjgenopdmfaaVC
import Derived.Test.YtgbnjgenopdmfaaSeqE
import Derived.Test.YtgbnjgenopdmfaaSeqG
namespace Go.Proofs.Ytgbnjgenopdmfaa
open Go.RowKit Go.Maps

theorem mvP_len (i : Nat) (p : Plc) : ∀ (hs : List Drn) (v : Int) (ms : List Plc), (mvP i p v hs ms).1.length ≤ hs.length ∧ (mvP i p v hs ms).2.1.length ≤ hs.length ∧ ms.length ≤ (mvP i p v hs ms).2.2.length ∧ (mvP i p v hs ms).2.2.length ≤ ms.length + hs.length
  | [], v, ms => by simp [mvP]
  | d :: r, v, ms => by
    have h1 : ms.length ≤ (addM d.mkd p ms).length ∧ (addM d.mkd p ms).length ≤ ms.length + 1 := by
      unfold addM
      split <;> simp
    unfold mvP
    split
    · split
      · simp only [List.length_cons, List.length_nil]; omega
      · obtain ⟨g1, g2, g3, g4⟩ := mvP_len i p r (v - d.vol) (addM d.mkd p ms)
        simp only [List.length_cons]
        omega
    · simp only [List.length_nil, List.length_cons]; omega
def DOk (hs : List Drn) : Prop := ∀ d ∈ hs, 1 ≤ d.vol ∧ d.vol ≤ 1000000000
theorem mvP_ok (i : Nat) (p : Plc) : ∀ (hs : List Drn) (v : Int) (ms : List Plc), DOk hs → DOk (mvP i p v hs ms).2.1
  | [], v, ms, h => by simp [mvP, DOk]
  | d :: r, v, ms, h => by
    have hr : DOk r := fun x hx => h x (by simp [hx])
    have hd := h d (by simp)
    unfold mvP
    split
    · split
      · intro x hx
        rcases List.mem_cons.1 hx with rfl | hx
        · simp only; omega
        · exact hr x hx
      · exact mvP_ok i p r (v - d.vol) (addM d.mkd p ms) hr
    · exact h
structure MvB (k n0 : Nat) (s : MvS) : Prop where
  out : s.out.length ≤ k * 3000
  held : s.held.length ≤ k
  marks : s.marks.length ≤ n0 + k * 3000
  ok : DOk s.held
set_option maxRecDepth 100000 in
theorem mvB_next {k n0 : Nat} {s : MvS} (h : MvB k n0 s) (hk : k < 3000) (a : Acn) : MvB (k + 1) n0 (mvS k a s) := by
  obtain ⟨h1, h2, h3, h4⟩ := h
  unfold mvS
  split
  · exact ⟨by simp only; omega, Nat.zero_le _, by simp only; omega, fun x hx => by simp at hx⟩
  · split
    · exact ⟨by simp only; omega, Nat.zero_le _, by simp only; omega, fun x hx => by simp at hx⟩
    · split
      · rename_i hc
        split
        · refine ⟨by simp only; omega, by simp; omega, by simp only; omega, fun x hx => ?_⟩
          rcases List.mem_append.1 hx with hx | hx
          · exact h4 x hx
          · simp at hx; subst hx; exact hc.2
        · split
          · obtain ⟨g1, g2, g3, g4⟩ := mvP_len k a.pl s.held a.vol s.marks
            exact ⟨by simp only [List.length_append]; omega, by simp only; omega, by simp only; omega, mvP_ok k a.pl s.held a.vol s.marks h4⟩
          · exact ⟨by omega, by omega, by omega, h4⟩
      · exact ⟨by omega, by omega, by omega, h4⟩
set_option maxRecDepth 100000 in
theorem mvB_all (acs : List Acn) (ms : List Plc) (hl : acs.length ≤ 3000) : ∀ k, k ≤ acs.length → MvB k ms.length (moves (acs.take k) ms)
  | 0, _ => ⟨by simp [mvF], by simp [mvF], by simp [mvF], fun x hx => by simp [mvF] at hx⟩
  | k + 1, hk => by
    rw [moves_next acs ms (show k < acs.length by omega)]
    exact mvB_next (mvB_all acs ms hl k (by omega)) (by omega) _
/-- Two slices that don't share a block. -/
def Apart (a b : Value) : Prop := a.ownBlock = none ∨ a.ownBlock ≠ b.ownBlock
theorem Apart.symm {a b : Value} (h : Apart a b) : Apart b a := by
  rcases h with h | h
  · cases hb : b.ownBlock with
    | none => exact .inl hb
    | some k => exact .inr (by rw [hb, h]; simp)
  · exact .inr (fun e => h e.symm)
/-- What a walk over moves has in memory. -/
structure MvI (w : World) (B : Nat) (wr : World) (ov hv mv : Value) (out : List Mvd) (held : List Drn) (marks : List Plc) : Prop where
  out : OwnR encM wr B ov out
  held : HdE encD wr B hv held
  marks : OwnR encP wr B mv marks
  oh : Apart ov hv
  om : Apart ov mv
  hm : Apart hv mv
  bel : Below B w wr
  bw : B ≤ wr.heap.size
theorem ownR_lt {α : Type} {c : Enc α} {w : World} {base : Nat} {v : Value} {ps : List α} (h : OwnR c w base v ps) {k : Nat} (hk : v.ownBlock = some k) : base ≤ k ∧ k < w.heap.size := World.ownsRow.lt h k hk
section
variable {w wr w2 : World} {B : Nat} {ov hv mv v' : Value} {out : List Mvd} {held : List Drn} {marks : List Plc}
theorem MvI.later (h : MvI w B wr ov hv mv out held marks) (hb : Below wr.heap.size wr w2) : MvI w B w2 ov hv mv out held marks :=
  ⟨h.out.later hb, h.held.later hb, h.marks.later hb, h.oh, h.om, h.hm, h.bel.trans (hb.mono h.bw), Nat.le_trans h.bw hb.size⟩
theorem apart_new {a : Value} (hl : ∀ k, a.ownBlock = some k → k < wr.heap.size) (hap : Apart a ov) (h : v'.ownBlock = ov.ownBlock ∨ v'.ownBlock = some wr.heap.size) : Apart a v' := by
  rcases h with h | h
  · rcases hap with h2 | h2
    · exact .inl h2
    · exact .inr (by rw [h]; exact h2)
  · cases ha : a.ownBlock with
    | none => exact .inl ha
    | some k =>
      refine .inr ?_
      rw [h, ha]
      intro e
      injection e with e
      have := hl k ha
      omega
theorem below_grown {row : Option Nat} (h : Below B w wr) (hg : wr.grownBy w2 row) (hr : ∀ k, row = some k → B ≤ k) (hB : B ≤ wr.heap.size) : Below B w w2 :=
  h.grown hg hB hr
theorem MvI.appOut (h : MvI w B wr ov hv mv out held marks) {o : Mvd} (ho : OwnR encM w2 B v' (out ++ [o])) (hg : wr.grownBy w2 ov.ownBlock) (hn : v'.ownBlock = ov.ownBlock ∨ v'.ownBlock = some wr.heap.size) : MvI w B w2 v' hv mv (out ++ [o]) held marks :=
  ⟨ho, h.held.grown hg h.oh.symm, h.marks.kept hg h.om.symm, (apart_new (fun _ hk => (h.held.lt hk).2) h.oh.symm hn).symm, (apart_new (fun _ hk => (ownR_lt h.marks hk).2) h.om.symm hn).symm, h.hm,
   below_grown h.bel hg (fun _ hk => (ownR_lt h.out hk).1) h.bw, Nat.le_trans h.bw hg.size⟩
theorem MvI.appMarks (h : MvI w B wr ov hv mv out held marks) {p : Plc} (ho : OwnR encP w2 B v' (marks ++ [p])) (hg : wr.grownBy w2 mv.ownBlock) (hn : v'.ownBlock = mv.ownBlock ∨ v'.ownBlock = some wr.heap.size) : MvI w B w2 ov hv v' out held (marks ++ [p]) :=
  ⟨h.out.kept hg h.om, h.held.grown hg h.hm, ho, h.oh, apart_new (fun _ hk => (ownR_lt h.out hk).2) h.om hn, apart_new (fun _ hk => (h.held.lt hk).2) h.hm hn,
   below_grown h.bel hg (fun _ hk => (ownR_lt h.marks hk).1) h.bw, Nat.le_trans h.bw hg.size⟩
theorem MvI.appHeld (h : MvI w B wr ov hv mv out held marks) {d : Drn} (ho : HdE encD w2 B v' (held ++ [d])) (hg : wr.grownBy w2 hv.ownBlock) (hn : v'.ownBlock = hv.ownBlock ∨ v'.ownBlock = some wr.heap.size) : MvI w B w2 ov v' mv out (held ++ [d]) marks :=
  ⟨h.out.kept hg h.oh, ho, h.marks.kept hg h.hm.symm, apart_new (fun _ hk => (ownR_lt h.out hk).2) h.oh hn, h.om, (apart_new (fun _ hk => (ownR_lt h.marks hk).2) h.hm.symm hn).symm,
   below_grown h.bel hg (fun _ hk => (h.held.lt hk).1) h.bw, Nat.le_trans h.bw hg.size⟩
theorem MvI.none (h : MvI w B wr ov hv mv out held marks) : MvI w B wr ov (.slice none 0 0) mv out [] marks :=
  ⟨h.out, HdE.nil _ _ _, h.marks, Apart.symm (.inl rfl), h.om, .inl rfl, h.bel, h.bw⟩
/-- The first of what is held has another volume. -/
theorem MvI.less {gh oh ch : Nat} {d : Drn} {r : List Drn} (h : MvI w B wr ov (.slice (some ⟨gh, oh, Option.none⟩) (r.length + 1) (ch + 1)) mv out (d :: r) marks) (x : Int) :
    MvI w B (wr.setCell ⟨gh, oh + 3, Option.none⟩ (.int .i64 x)) ov (.slice (some ⟨gh, oh, Option.none⟩) (r.length + 1) (ch + 1)) mv out (⟨d.fr, x, d.mkd⟩ :: r) marks := by
  have hg := grown_set wr gh (oh + 3) (.int .i64 x)
  exact ⟨h.out.kept hg h.oh, h.held.less goodD 3 (by decide) _ rfl, h.marks.kept hg h.hm.symm, h.oh, h.om, h.hm, below_grown h.bel hg (fun _ hk => (h.held.lt hk).1) h.bw, Nat.le_trans h.bw hg.size⟩
theorem MvI.tail {gh oh ch : Nat} {d : Drn} {r : List Drn} (h : MvI w B wr ov (.slice (some ⟨gh, oh, Option.none⟩) (r.length + 1) (ch + 1)) mv out (d :: r) marks) :
    MvI w B wr ov (.slice (some ⟨gh, if ch = 0 then oh else oh + 5, Option.none⟩) r.length ch) mv out r marks :=
  ⟨h.out, h.held.tail, h.marks, h.oh, h.om, h.hm, h.bel, h.bw⟩
end
theorem HdE.at0 {w : World} {base g off n cap : Nat} {x : Drn} {r : List Drn} (h : HdE encD w base (.slice (some ⟨g, off, none⟩) n cap) (x :: r)) :
    w.cell? ⟨g, off, none⟩ = some (.int .i64 x.fr.1) ∧ w.cell? ⟨g, off + 1, none⟩ = some (.int .i64 x.fr.2.1) ∧ w.cell? ⟨g, off + 2, none⟩ = some (.int .i64 x.fr.2.2) ∧ w.cell? ⟨g, off + 3, none⟩ = some (.int .i64 x.vol) ∧ w.cell? ⟨g, off + 4, none⟩ = some (.bool x.mkd) ∧ w.frozen? ⟨g, off + 3, none⟩ = false := by
  obtain ⟨g', off', cap', e, _, _, _, hc⟩ := h.first
  injection e with e1 e2 e3
  injection e1 with e1
  injection e1 with e4 e5
  subst e4 e5
  exact ⟨(hc 0 (by decide)).1, (hc 1 (by decide)).1, (hc 2 (by decide)).1, (hc 3 (by decide)).1, (hc 4 (by decide)).1, (hc 3 (by decide)).2⟩
theorem bk_grown {w w2 : World} {row : Option Nat} {b : Nat} {cs : List Value} (h : Bk b cs w) (hg : w.grownBy w2 row) (hn : row ≠ some b) : Bk b cs w2 := h.same hg.size (hg.block b h.1 fun e => hn e.symm)
theorem OwnR.rd {α : Type} {c : Enc α} (hg : Good c) {w : World} {base : Nat} {ao : Option Addr} {n cap : Nat} {ps : List α} (h : OwnR c w base (.slice ao n cap) ps) : RdR c w ao ps := by
  rcases h.read hg with ⟨h1, _⟩ | ⟨g, cap', e, _, _, hlt, hc⟩
  · exact .inl h1
  · injection e with e1
    exact .inr ⟨g, 0, e1, hlt, fun k hk j hj => by rw [Nat.zero_add]; exact hc k hk j hj⟩
theorem rdR_below {α : Type} {c : Enc α} {B : Nat} {w w1 : World} {ao : Option Addr} {l : List α} (h : RdR c w ao l) (hb : Below B w w1) (hal : ∀ ad, ao = some ad → l ≠ [] → ad.block < B) : RdR c w1 ao l := by
  by_cases hn : l = []
  · exact .inl hn
  · rcases h with h | ⟨b, off, e, hlt, hc⟩
    · exact absurd h hn
    · have hB := hal _ e hn
      refine .inr ⟨b, off, e, Nat.lt_of_lt_of_le hlt hb.size, fun k hk j hj => ?_⟩
      rw [← hc k hk j hj]
      exact hb.cell (p := ⟨b, _, none⟩) hB
theorem Acs.below {B : Nat} {w w1 : World} {ao : Option Addr} {acs : List Acn} (h : Acs w ao acs) (hb : Below B w w1) (hal : ∀ ad, ao = some ad → acs ≠ [] → ad.block < B) : Acs w1 ao acs := ⟨rdR_below h.rd hb hal, h.ok⟩
theorem mv_tip {i : Nat} {a : Acn} {s : MvS} (h : a.kind = 6) : mvS i a s = ⟨s.out, true, [], s.marks⟩ := if_pos h
theorem mv_drop {i : Nat} {a : Acn} {s : MvS} (h : a.kind = 7) : mvS i a s = ⟨s.out, false, [], s.marks⟩ := by unfold mvS; rw [if_neg (by omega), if_pos h]
theorem mv_out {i : Nat} {a : Acn} {s : MvS} (h6 : a.kind ≠ 6) (h7 : a.kind ≠ 7) (h : ¬ (s.tip = true ∧ 1 ≤ a.vol ∧ a.vol ≤ 1000000000)) : mvS i a s = s := by unfold mvS; rw [if_neg h6, if_neg h7, if_neg h]
theorem mv_draw {i : Nat} {a : Acn} {s : MvS} (h8 : a.kind = 8) (h : s.tip = true ∧ 1 ≤ a.vol ∧ a.vol ≤ 1000000000) : mvS i a s = ⟨s.out, true, s.held ++ [⟨a.pl, a.vol, decide (a.pl ∈ s.marks)⟩], s.marks⟩ := by unfold mvS; rw [if_neg (by omega), if_neg (by omega), if_pos h, if_pos h8]
theorem mv_put {i : Nat} {a : Acn} {s : MvS} (h9 : a.kind = 9) (h : s.tip = true ∧ 1 ≤ a.vol ∧ a.vol ≤ 1000000000) : mvS i a s = ⟨s.out ++ (mvP i a.pl a.vol s.held s.marks).1, true, (mvP i a.pl a.vol s.held s.marks).2.1, (mvP i a.pl a.vol s.held s.marks).2.2⟩ := by unfold mvS; rw [if_neg (by omega), if_neg (by omega), if_pos h, if_neg (by omega), if_pos h9]
theorem mv_else {i : Nat} {a : Acn} {s : MvS} (h6 : a.kind ≠ 6) (h7 : a.kind ≠ 7) (h8 : a.kind ≠ 8) (h9 : a.kind ≠ 9) : mvS i a s = s := by
  unfold mvS
  rw [if_neg h6, if_neg h7]
  rw [if_neg h8, if_neg h9]
  split <;> rfl
set_option linter.unusedVariables false in
def mvV13 (A nH cH nM cM : Nat) (aoH aoM : Option Addr) (ms : List Plc) (a : Acn) (d : Nat) (v : Value) (w : World) : Prop :=
  match d with
  | 45 => v = .slice aoH nH cH
  | 46 => v = .pointer (some ⟨A, 1, none⟩)
  | 47 => v = .agg #[.int .i64 a.pl.1, .int .i64 a.pl.2.1, .int .i64 a.pl.2.2]
  | 48 => v = .pointer (some ⟨A, 5, none⟩)
  | 49 => v = .int .i64 a.vol
  | 50 => v = .slice aoM nM cM
  | 51 => v = .pointer (some ⟨A, 1, none⟩)
  | 52 => v = .agg #[.int .i64 a.pl.1, .int .i64 a.pl.2.1, .int .i64 a.pl.2.2]
  | 53 => v = .int .i64 (piR ms a.pl)
  | 54 => v = .bool (decide (0 ≤ piR ms a.pl))
  | 55 => v = .agg #[.int .i64 a.pl.1, .int .i64 a.pl.2.1, .int .i64 a.pl.2.2, .int .i64 a.vol, .bool (decide (0 ≤ piR ms a.pl))]
  | 56 => ∃ b, v = .slice (some ⟨b, 0, none⟩) 1 1 ∧ Bk b [.int .i64 a.pl.1, .int .i64 a.pl.2.1, .int .i64 a.pl.2.2, .int .i64 a.vol, .bool (decide (0 ≤ piR ms a.pl))] w
  | _ => True
set_option linter.unusedVariables false in
theorem mvV13_mono (A nH cH nM cM : Nat) (aoH aoM : Option Addr) (ms : List Plc) (a : Acn) (d : Nat) (v : Value) (w w' : World) (h : mvV13 A nH cH nM cM aoH aoM ms a d v w) (hb : Below w.heap.size w w') : mvV13 A nH cH nM cM aoH aoM ms a d v w' := by
  unfold mvV13 at h ⊢
  split <;> simp only [] at h <;> first | exact h | (obtain ⟨b, h1, h2⟩ := h; exact ⟨b, h1, h2.later hb⟩)
set_option linter.unusedVariables false in
def mvV17 (nO cO k gh oh nH cH : Nat) (aoO : Option Addr) (x : Drn) (nn : Int) (d : Nat) (v : Value) (w : World) : Prop :=
  match d with
  | 78 => v = .slice aoO nO cO
  | 79 => v = .int .i64 k
  | 80 => v = .slice (some ⟨gh, oh, none⟩) nH cH
  | 81 => v = .pointer (some ⟨gh, oh, none⟩)
  | 82 => v = .pointer (some ⟨gh, oh, none⟩)
  | 83 => v = .agg #[.int .i64 x.fr.1, .int .i64 x.fr.2.1, .int .i64 x.fr.2.2]
  | 84 => v = .int .i64 nn
  | 85 => v = .slice (some ⟨gh, oh, none⟩) nH cH
  | 86 => v = .pointer (some ⟨gh, oh, none⟩)
  | 87 => v = .pointer (some ⟨gh, oh + 4, none⟩)
  | 88 => v = .bool x.mkd
  | 89 => v = .agg #[.int .i64 k, .int .i64 x.fr.1, .int .i64 x.fr.2.1, .int .i64 x.fr.2.2, .int .i64 nn, .bool x.mkd]
  | 90 => ∃ b, v = .slice (some ⟨b, 0, none⟩) 1 1 ∧ Bk b [.int .i64 k, .int .i64 x.fr.1, .int .i64 x.fr.2.1, .int .i64 x.fr.2.2, .int .i64 nn, .bool x.mkd] w
  | _ => True
set_option linter.unusedVariables false in
theorem mvV17_mono (nO cO k gh oh nH cH : Nat) (aoO : Option Addr) (x : Drn) (nn : Int) (d : Nat) (v : Value) (w w' : World) (h : mvV17 nO cO k gh oh nH cH aoO x nn d v w) (hb : Below w.heap.size w w') : mvV17 nO cO k gh oh nH cH aoO x nn d v w' := by
  unfold mvV17 at h ⊢
  split <;> simp only [] at h <;> first | exact h | (obtain ⟨b, h1, h2⟩ := h; exact ⟨b, h1, h2.later hb⟩)
set_option maxHeartbeats 12800000 in
set_option maxRecDepth 100000 in
theorem movesOf_any (ao : Option Addr) (cap : Nat) (acs : List Acn) (ms : List Plc) (mv0 : Value) (B : Nat) (w : World) (hA : Acs w ao acs) (hal : ∀ ad, ao = some ad → acs ≠ [] → ad.block < B) (hl : acs.length ≤ 3000) (hM : OwnR encP w B mv0 ms) (hml0 : ms.length ≤ 1) (hBw : B ≤ w.heap.size) :
    Calls Try.prog 21 #[.slice ao acs.length cap, mv0] w fun e w' => Below B w w' ∧ ∃ ov mv, e = .returned (.tuple #[ov, mv]) ∧ OwnR encM w' B ov (moves acs ms).out ∧ OwnR encP w' B mv (moves acs ms).marks := by
  have HA : Hid (Acs w ao acs) := hA
  have HAL : Hid (∀ ad, ao = some ad → acs ≠ [] → ad.block < B) := hal
  have H0 : Hid (MvI w B w (.slice none 0 0) (.slice none 0 0) mv0 [] [] ms) := ⟨OwnR.nil _ _ _, HdE.nil _ _ _, hM, .inl rfl, .inl rfl, .inl rfl, Below.refl _ _, hBw⟩
  have HMB : Hid (∀ k, k ≤ acs.length → MvB k ms.length (moves (acs.take k) ms)) := fun k hk => mvB_all acs ms hl k hk
  clear hA hal hM hBw
  go_enter Try.func21, Try.ntmps21
  go_wp2
  go_loopw [1, 6, 7, 8, 9] (fun q1 q6 q7 q8 q9 wr => ∃ (k : Nat) (mv ov hv : Value) (s : MvS), k ≤ acs.length ∧ mv = q1 ∧ ov = q6 ∧ q7 = .bool s.tip ∧ hv = q8 ∧ q9 = .int .i64 k ∧ s = moves (acs.take k) ms ∧ MvI w B wr ov hv mv s.out s.held s.marks) (fun _ _ _ _ i _ => acs.length - (intOf i).toNat)
  case atStart => exact ⟨0, _, _, _, moves (acs.take 0) ms, Nat.zero_le _, rfl, rfl, rfl, rfl, rfl, rfl, H0.out⟩
  case round =>
    obtain ⟨k, mv, ov, hv, s, hk, rfl, rfl, rfl, rfl, rfl, hs, hI⟩ := hrel
    obtain ⟨wo, rfl⟩ : ∃ wo, wo = wr := ⟨wr, rfl⟩
    have HI : Hid (MvI w B wo ov hv mv s.out s.held s.marks) := hI
    have HS : Hid (s = moves (acs.take k) ms) := hs
    have hmb := HMB.out k hk
    rw [← hs] at hmb
    clear hI hs
    by_cases hlt : k < acs.length
    · have hki : (k : Int) < (acs.length : Int) := by omega
      have HNX : Hid (mvS k (acs[k]'hlt) s = moves (acs.take (k + 1)) ms) := by show _ = _; rw [moves_next acs ms hlt, HS.out]
      have hmb2 := HMB.out (k + 1) hlt
      rw [← HNX.out] at hmb2
      obtain ⟨g, off, rfl, hc⟩ := (HA.out.below HI.out.bel HAL.out).at hlt
      generalize acs[k]'hlt = a at *
      have c0 := hc 0 (by decide)
      have c1 := hc 1 (by decide)
      have c2 := hc 2 (by decide)
      have c3 := hc 3 (by decide)
      have c4 := hc 4 (by decide)
      have c5 := hc 5 (by decide)
      have c6 := hc 6 (by decide)
      have c7 := hc 7 (by decide)
      simp only [acl, List.getElem?_cons_zero, List.getElem?_cons_succ, Nat.add_zero] at c0 c1 c2 c3 c4 c5 c6 c7
      clear hc
      have b1 : Below wo.heap.size wo (wo.alloc (aobj a)) := (Below.refl _ _).alloc (Nat.le_refl _) _
      have HI1 : Hid (MvI w B (wo.alloc (aobj a)) ov hv mv s.out s.held s.marks) := HI.out.later b1
      have HA1 : Hid (Bk wo.heap.size (acl a) (wo.alloc (aobj a))) := Bk.new wo (acl a) 45 wo.heap.size rfl
      have HO1 : Hid (ov.ownBlock ≠ some wo.heap.size ∧ hv.ownBlock ≠ some wo.heap.size ∧ mv.ownBlock ≠ some wo.heap.size) := ⟨fun e => by have := (ownR_lt HI.out.out e).2; omega, fun e => by have := (HI.out.held.lt e).2; omega, fun e => by have := (ownR_lt HI.out.marks e).2; omega⟩
      have HW : Hid (∀ W, Calls Try.prog 32 #[.int .i64 a.vol, .int .i64 1, .int .i64 1000000000] W fun e w' => e = .returned (.bool (decide (1 ≤ a.vol ∧ a.vol ≤ 1000000000))) ∧ w' = W) := fun W => by
        have h := refWithin_any a.vol 1 1000000000 W
        rwa [← Bool.decide_and] at h
      obtain ⟨sout, stip, sheld, smarks⟩ := s
      simp only at HI HI1 hmb
      clear b1
      by_cases h6 : a.kind = 6
      · have b6 : (a.kind == 6) = true := by simp [h6]
        have b7 : (a.kind == 7) = false := by simp; omega
        have b8 : (a.kind == 8) = false := by simp; omega
        have b9 : (a.kind == 9) = false := by simp; omega
        have HEQ : Hid (mvS k a ⟨sout, stip, sheld, smarks⟩ = ⟨sout, true, [], smarks⟩) := mv_tip h6
        clear h6
        by_cases hv1 : 1 ≤ a.vol ∧ a.vol ≤ 1000000000
        · rw [decide_eq_true hv1] at HW
          clear hv1
          go_wp2_with (go_at_call 32; refine (HW.out _).mono ?_; rintro e w2 ⟨rfl, rfl⟩)
          go_loopw [1, 6, 8, 11] (fun q1 q6 q8 q11 wr => q1 = mv ∧ q6 = ov ∧ q8 = .slice none 0 0 ∧ q11 = .int .i64 a.vol ∧ wr = wo.alloc (aobj a)) (fun _ _ _ _ _ => 0)
          case atStart => exact ⟨rfl, rfl, rfl, rfl, rfl⟩
          case round =>
            obtain ⟨rfl, rfl, rfl, rfl, rfl⟩ := hrel
            go_wp2
            go_roundw
            case rel => exact ⟨k + 1, _, _, _, mvS k a ⟨sout, stip, sheld, smarks⟩, by omega, rfl, rfl, by rw [HEQ.out], rfl, by go_num, HNX.out, by rw [HEQ.out]; exact HI1.out.none⟩
            case measure => simp [intOf]; omega
        · rw [decide_eq_false hv1] at HW
          clear hv1
          go_wp2_with (go_at_call 32; refine (HW.out _).mono ?_; rintro e w2 ⟨rfl, rfl⟩)
          go_roundw
          case rel => exact ⟨k + 1, _, _, _, mvS k a ⟨sout, stip, sheld, smarks⟩, by omega, rfl, rfl, by rw [HEQ.out], rfl, by go_num, HNX.out, by rw [HEQ.out]; exact HI1.out.none⟩
          case measure => simp [intOf]; omega
      · have b6 : (a.kind == 6) = false := by simp [h6]
        by_cases h7 : a.kind = 7
        · have b7 : (a.kind == 7) = true := by simp [h7]
          have HEQ : Hid (mvS k a ⟨sout, stip, sheld, smarks⟩ = ⟨sout, false, [], smarks⟩) := mv_drop h7
          clear h6 h7
          go_wp2_with (go_at_call 32; refine (HW.out _).mono ?_; rintro e w2 ⟨rfl, rfl⟩)
          go_roundw
          case rel => exact ⟨k + 1, _, _, _, mvS k a ⟨sout, stip, sheld, smarks⟩, by omega, rfl, rfl, by rw [HEQ.out], rfl, by go_num, HNX.out, by rw [HEQ.out]; exact HI1.out.none⟩
          case measure => simp [intOf]; omega
        · have b7 : (a.kind == 7) = false := by simp [h7]
          cases stip with
          | false =>
            have HEQ : Hid (mvS k a ⟨sout, false, sheld, smarks⟩ = ⟨sout, false, sheld, smarks⟩) := mv_out h6 h7 (by simp)
            clear h6 h7
            go_wp2_with (go_at_call 32; refine (HW.out _).mono ?_; rintro e w2 ⟨rfl, rfl⟩)
            go_roundw
            case rel => exact ⟨k + 1, _, _, _, mvS k a ⟨sout, false, sheld, smarks⟩, by omega, rfl, rfl, by rw [HEQ.out], rfl, by go_num, HNX.out, by rw [HEQ.out]; exact HI1.out⟩
            case measure => simp [intOf]; omega
          | true =>
            by_cases hv1 : 1 ≤ a.vol ∧ a.vol ≤ 1000000000
            · rw [decide_eq_true hv1] at HW
              by_cases h8 : a.kind = 8
              · have b8 : (a.kind == 8) = true := by simp [h8]
                have b9 : (a.kind == 9) = false := by simp; omega
                have HEQ : Hid (mvS k a ⟨sout, true, sheld, smarks⟩ = ⟨sout, true, sheld ++ [⟨a.pl, a.vol, decide (a.pl ∈ smarks)⟩], smarks⟩) := mv_draw h8 ⟨rfl, hv1⟩
                clear h6 h7 h8 hv1
                obtain ⟨aoH, cH, rfl⟩ := HI1.out.held.form
                obtain ⟨aoM, cM, rfl⟩ := HI1.out.marks.shape
                obtain ⟨w1, hw1⟩ : ∃ w1, w1 = wo.alloc (aobj a) := ⟨_, rfl⟩
                rw [← hw1] at HI1 HA1
                have HMR : Hid (RdR encP w1 aoM smarks) := HI1.out.marks.rd goodP
                have KA : Hid (Bk wo.heap.size (acl a) w1) := HA1.out
                have hml : smarks.length ≤ 1000000000 := by have := hmb.marks; simp only at this; omega
                have hhl : sheld.length ≤ 1000000 := by have := hmb.held; simp only at this; omega
                go_wp2_with (go_at_call 32; refine (HW.out _).mono ?_; rintro e w2 ⟨rfl, rfl⟩)
                rw [← hw1]
                clear hw1
                refine region_seq 12 [false, false, false, false, false, false, false, false, false, false, false, false, false, false, false, false, false, false, false, false, false, false, false, false, false, false, false, false, false, false, false, false, false, false, false, false, false, false, false, false, false, false, false, false, false, true, true, true, true, true, true, true, true, true, true, true, true, false, false, false, false, false, false, false, false, false, false, false, false, false, false, false, false, false, false, false, false, false, false, false, false, false, false, false, false, false, false, false, false, false, false, false, false, false, false, false, false, false, false, false, false, false, false, false, false, false, false, false, false, false, false, false, false, false, false, false, false, false, false, false, false, false, false, false, false, false, false, false]
                  [(45, [], none), (46, [], none), (47, [46], none), (48, [], none), (49, [48], none), (50, [], none), (51, [], none), (52, [51], none), (53, [50, 52], none), (54, [53], none), (55, [47, 49, 54], none), (56, [55], none)]
                  (mvV13 wo.heap.size sheld.length cH smarks.length cM aoH aoM smarks a) (by kernel_rfl) (by kernel_rfl) (by kernel_rfl) (by kernel_rfl) (by kernel_rfl) (by decide) (mvV13_mono wo.heap.size sheld.length cH smarks.length cM aoH aoM smarks a) ?_ ?_
                · refine ⟨?_, ?_, ?_, ?_, ?_, ?_, ?_, ?_, ?_, ?_, ?_, ?_, trivial⟩
                  · intro f w3 hb _ K hK
                    simp only [over, overL, Nat.reduceAdd]
                    go_simp
                    exact hK _ _ ⟨_, rfl, by simp only [over, overL, Nat.reduceAdd]; rfl, Below.refl _ _⟩
                  · intro f w3 hb _ K hK
                    simp only [over, overL, Nat.reduceAdd]
                    go_simp
                    exact hK _ _ ⟨_, rfl, by simp only [over, overL, Nat.reduceAdd]; rfl, Below.refl _ _⟩
                  · intro f w3 hb ⟨h46, _⟩ K hK
                    replace h46 : f 46 = _ := h46
                    have q1 := (KA.out.later hb).c 1 rfl
                    have q2 := (KA.out.later hb).c 2 rfl
                    have q3 := (KA.out.later hb).c 3 rfl
                    simp only [over, overL, Nat.reduceAdd, h46]
                    go_simp
                    exact hK _ _ ⟨_, rfl, by simp only [over, overL, Nat.reduceAdd, h46]; rfl, Below.refl _ _⟩
                  · intro f w3 hb _ K hK
                    simp only [over, overL, Nat.reduceAdd]
                    go_simp
                    exact hK _ _ ⟨_, rfl, by simp only [over, overL, Nat.reduceAdd]; rfl, Below.refl _ _⟩
                  · intro f w3 hb ⟨h48, _⟩ K hK
                    replace h48 : f 48 = _ := h48
                    have q5 := (KA.out.later hb).c 5 rfl
                    simp only [over, overL, Nat.reduceAdd, h48]
                    go_simp
                    exact hK _ _ ⟨_, rfl, by simp only [over, overL, Nat.reduceAdd, h48]; rfl, Below.refl _ _⟩
                  · intro f w3 hb _ K hK
                    simp only [over, overL, Nat.reduceAdd]
                    go_simp
                    exact hK _ _ ⟨_, rfl, by simp only [over, overL, Nat.reduceAdd]; rfl, Below.refl _ _⟩
                  · intro f w3 hb _ K hK
                    simp only [over, overL, Nat.reduceAdd]
                    go_simp
                    exact hK _ _ ⟨_, rfl, by simp only [over, overL, Nat.reduceAdd]; rfl, Below.refl _ _⟩
                  · intro f w3 hb ⟨h51, _⟩ K hK
                    replace h51 : f 51 = _ := h51
                    have q1 := (KA.out.later hb).c 1 rfl
                    have q2 := (KA.out.later hb).c 2 rfl
                    have q3 := (KA.out.later hb).c 3 rfl
                    simp only [over, overL, Nat.reduceAdd, h51]
                    go_simp
                    exact hK _ _ ⟨_, rfl, by simp only [over, overL, Nat.reduceAdd, h51]; rfl, Below.refl _ _⟩
                  · intro f w3 hb ⟨h50, h52, _⟩ K hK
                    replace h50 : f 50 = _ := h50
                    replace h52 : f 52 = _ := h52
                    simp only [over, overL, Nat.reduceAdd, h50, h52]
                    go_simp
                    refine (placeIn_any aoM cM smarks a.pl w3 (HMR.out.next goodP hb) hml).mono ?_
                    rintro e w2 ⟨rfl, hb2⟩
                    exact hK _ _ ⟨_, rfl, by simp only [over, overL, Nat.reduceAdd, h50, h52]; rfl, hb2⟩
                  · intro f w3 hb ⟨h53, _⟩ K hK
                    replace h53 : f 53 = _ := h53
                    simp only [over, overL, Nat.reduceAdd, h53]
                    go_simp
                    exact hK _ _ ⟨_, rfl, by simp only [over, overL, Nat.reduceAdd, h53]; rfl, Below.refl _ _⟩
                  · intro f w3 hb ⟨h47, h49, h54, _⟩ K hK
                    replace h47 : f 47 = _ := h47
                    replace h49 : f 49 = _ := h49
                    replace h54 : f 54 = _ := h54
                    simp only [over, overL, Nat.reduceAdd, h47, h49, h54]
                    go_simp
                    exact hK _ _ ⟨_, rfl, by simp only [over, overL, Nat.reduceAdd, h47, h49, h54]; rfl, Below.refl _ _⟩
                  · intro f w3 hb ⟨h55, _⟩ K hK
                    replace h55 : f 55 = _ := h55
                    simp only [over, overL, Nat.reduceAdd, h55]
                    go_simp
                    exact hK _ _ ⟨_, ⟨w3.heap.size, rfl, Bk.new w3 [.int .i64 a.pl.1, .int .i64 a.pl.2.1, .int .i64 a.pl.2.2, .int .i64 a.vol, .bool (decide (0 ≤ piR smarks a.pl))] 89 w3.heap.size rfl⟩, by simp only [over, overL, Nat.reduceAdd, h55]; rfl, (Below.refl _ _).alloc (Nat.le_refl _) _⟩
                · intro f w3 hb3 hv
                  have h45 : f 45 = .slice aoH sheld.length cH := hv.1
                  obtain ⟨b, h56, K56⟩ := (show ∃ b, f 56 = .slice (some ⟨b, 0, none⟩) 1 1 ∧ Bk b [.int .i64 a.pl.1, .int .i64 a.pl.2.1, .int .i64 a.pl.2.2, .int .i64 a.vol, .bool (decide (0 ≤ piR smarks a.pl))] w3 from hv.2.2.2.2.2.2.2.2.2.2.2.1)
                  have I3 := HI1.out.later hb3
                  simp only [List.drop, over, overL, Nat.reduceAdd, h45, h56]
                  refine wpList_append_hdE goodD Try.underlying85 infoD rfl (by decide) (by decide) w3 rfl (.tmp 45) (.tmp 56) rfl B (.slice aoH sheld.length cH) sheld rfl I3.held b ⟨a.pl, a.vol, decide (a.pl ∈ smarks)⟩ rfl (fun j u hj => K56.c j (by rw [decide_eq_decide.2 (piR_mem (ms := smarks) (p := a.pl))]; exact hj)) hhl I3.bw ?_
                  intro ao4 cap4 w4 hd4 g4 n4
                  have HI4 : Hid (MvI w B w4 ov (.slice ao4 (sheld.length + 1) cap4) (.slice aoM smarks.length cM) sout (sheld ++ [⟨a.pl, a.vol, decide (a.pl ∈ smarks)⟩]) smarks) := I3.appHeld hd4 g4 n4
                  have K4 := bk_grown (KA.out.later hb3) g4 HO1.out.2.1
                  have a0 := K4.c 0 rfl
                  have a5 := K4.c 5 rfl
                  clear hd4 g4 n4 I3 K56 hb3 hv K4
                  go_wp2
                  go_loopw [1, 6, 8, 11] (fun q1 q6 q8 q11 wr => q1 = .slice aoM smarks.length cM ∧ q6 = ov ∧ q8 = .slice ao4 (sheld.length + 1) cap4 ∧ q11 = .int .i64 a.vol ∧ wr = w4) (fun _ _ _ _ _ => 0)
                  case atStart => exact ⟨rfl, rfl, rfl, rfl, rfl⟩
                  case round =>
                    obtain ⟨rfl, rfl, rfl, rfl, rfl⟩ := hrel
                    go_wp2
                    go_roundw
                    case rel => exact ⟨k + 1, _, _, _, mvS k a ⟨sout, true, sheld, smarks⟩, by omega, rfl, rfl, by rw [HEQ.out], rfl, by go_num, HNX.out, by rw [HEQ.out]; exact HI4.out⟩
                    case measure => simp [intOf]; omega
              · have b8 : (a.kind == 8) = false := by simp [h8]
                by_cases h9 : a.kind = 9
                · have b9 : (a.kind == 9) = true := by simp [h9]
                  have HEQ : Hid (mvS k a ⟨sout, true, sheld, smarks⟩ = ⟨sout ++ (mvP k a.pl a.vol sheld smarks).1, true, (mvP k a.pl a.vol sheld smarks).2.1, (mvP k a.pl a.vol sheld smarks).2.2⟩) := mv_put h9 ⟨rfl, hv1⟩
                  rw [HEQ.out] at hmb2
                  obtain ⟨hv1, hv2⟩ := hv1
                  clear h6 h7 h8 h9
                  obtain ⟨w1, hw1⟩ : ∃ w1, w1 = wo.alloc (aobj a) := ⟨_, rfl⟩
                  rw [← hw1] at HI1 HA1
                  have KA : Hid (Bk wo.heap.size (acl a) w1) := HA1.out
                  have a0 := HA1.out.c 0 rfl
                  have a5 := HA1.out.c 5 rfl
                  obtain ⟨hm1, hm2, hm3, hm4⟩ := hmb
                  obtain ⟨hm5, hm6, hm7, hm8⟩ := hmb2
                  simp only at hm1 hm2 hm3 hm5 hm7
                  have HDOK : Hid (DOk sheld) := hm4
                  clear hm4 hm8 hm6
                  rw [hw1] at a0 a5
                  go_wp2_with (go_at_call 32; refine (HW.out _).mono ?_; rintro e w2 ⟨rfl, rfl⟩)
                  rw [← hw1] at a0 a5 ⊢
                  clear hw1
                  go_loopw [1, 6, 8, 11] (fun q1 q6 q8 q11 wr => ∃ (mq oq hq : Value) (vv : Int) (o' oc : List Mvd) (hc : List Drn) (mc : List Plc), oc = sout ++ o' ∧ mq = q1 ∧ oq = q6 ∧ hq = q8 ∧ q11 = .int .i64 vv ∧ MvI w B wr oq hq mq oc hc mc ∧ Bk wo.heap.size (acl a) wr ∧ (oq.ownBlock ≠ some wo.heap.size ∧ hq.ownBlock ≠ some wo.heap.size ∧ mq.ownBlock ≠ some wo.heap.size) ∧ DOk hc ∧ vv ≤ 1000000000 ∧ wo.heap.size < wr.heap.size ∧ (mvP k a.pl a.vol sheld smarks).1 = o' ++ (mvP k a.pl vv hc mc).1 ∧ (mvP k a.pl a.vol sheld smarks).2 = (mvP k a.pl vv hc mc).2) (fun _ _ _ l _ => (intOf l).toNat)
                  case atStart => exact ⟨_, _, _, a.vol, [], sout, sheld, smarks, by rw [List.append_nil], rfl, rfl, rfl, rfl, HI1.out, KA.out, HO1.out, HDOK.out, hv2, KA.out.1, rfl, rfl⟩
                  case round =>
                    obtain ⟨mq, oq, hq, vv, o', oc, hc, mc, hoc, rfl, rfl, rfl, rfl, hIq, hKq, hOq, hDq, hvq, hsq, hE1, hE2⟩ := hrel
                    have HOC : Hid (oc = sout ++ o') := hoc
                    clear hoc
                    have HIQ : Hid (MvI w B wr oq hq mq oc hc mc) := hIq
                    have HKQ : Hid (Bk wo.heap.size (acl a) wr) := hKq
                    have HOQ : Hid (oq.ownBlock ≠ some wo.heap.size ∧ hq.ownBlock ≠ some wo.heap.size ∧ mq.ownBlock ≠ some wo.heap.size) := hOq
                    have HDQ : Hid (DOk hc) := hDq
                    have HE1 : Hid ((mvP k a.pl a.vol sheld smarks).1 = o' ++ (mvP k a.pl vv hc mc).1) := hE1
                    have HE2 : Hid ((mvP k a.pl a.vol sheld smarks).2 = (mvP k a.pl vv hc mc).2) := hE2
                    have e0 := hKq.c 0 rfl
                    clear a0 a5 hIq hKq hOq hDq
                    by_cases hp : 0 < vv
                    · cases hc with
                      | nil =>
                        clear hE1 hE2
                        have HX1 : Hid ((mvP k a.pl a.vol sheld smarks).1 = o' ∧ (mvP k a.pl a.vol sheld smarks).2 = ([], mc)) := ⟨by rw [HE1.out]; simp [mvP], by rw [HE2.out]; simp [mvP]⟩
                        obtain ⟨aoH, cH, rfl⟩ := HIQ.out.held.form
                        simp only [List.length_nil] at HIQ HOQ ⊢
                        go_wp2
                        go_roundw
                        case rel =>
                          refine ⟨k + 1, _, _, _, mvS k a ⟨sout, true, sheld, smarks⟩, by omega, rfl, rfl, by rw [HEQ.out], rfl, by go_num, HNX.out, ?_⟩
                          rw [HEQ.out]
                          simp only
                          rw [HX1.out.1, HX1.out.2, ← HOC.out]
                          exact HIQ.out
                        case measure => simp [intOf]; omega
                      | cons d r =>
                        have hd := HDQ.out d (by simp)
                        obtain ⟨hd1, hd2⟩ := hd
                        obtain ⟨gh, oh, ch, rfl, hrc, hBg, hgs, _⟩ := HIQ.out.held.first
                        obtain ⟨p0, p1, p2, p3, p4, pf3⟩ := HIQ.out.held.at0
                        obtain ⟨aoO, cO, rfl⟩ := HIQ.out.out.shape
                        obtain ⟨aoM, cM, rfl⟩ := HIQ.out.marks.shape
                        have hlo : oc.length ≤ 100000000 := by
                          have h := hm5
                          rw [hE1] at h
                          rw [HOC.out]
                          simp only [List.length_append] at h ⊢
                          omega
                        have hlm : mc.length ≤ 100000000 := by
                          have h := hm7
                          rw [hE2] at h
                          have h2 := (mvP_len k a.pl (d :: r) vv mc).2.2.1
                          omega
                        clear hE1 hE2
                        obtain ⟨nn, hnn⟩ : ∃ nn : Int, nn = if vv < d.vol then vv else d.vol := ⟨_, rfl⟩
                        have HLS : Hid (∀ W, Calls Try.prog 34 #[.int .i64 vv, .int .i64 d.vol] W fun e w' => e = .returned (.int .i64 nn) ∧ w' = W) := fun W => by rw [hnn]; exact lesser_any vv d.vol W
                        have hn1 : 1 ≤ nn ∧ nn ≤ vv ∧ nn ≤ d.vol := by rw [hnn]; split <;> omega
                        obtain ⟨hn1, hn2, hn3⟩ := hn1
                        have HX : Hid (∀ W1, Below wr.heap.size wr W1 → W1.cell? ⟨gh, oh, none⟩ = some (.int .i64 d.fr.1) ∧ W1.cell? ⟨gh, oh + 1, none⟩ = some (.int .i64 d.fr.2.1) ∧ W1.cell? ⟨gh, oh + 2, none⟩ = some (.int .i64 d.fr.2.2) ∧ W1.cell? ⟨gh, oh + 3, none⟩ = some (.int .i64 d.vol) ∧ W1.cell? ⟨gh, oh + 4, none⟩ = some (.bool d.mkd)) := fun W1 hb => ⟨cell_later hb p0, cell_later hb p1, cell_later hb p2, cell_later hb p3, cell_later hb p4⟩
                        have HNN : Hid (nn = if vv < d.vol then vv else d.vol) := hnn
                        clear hnn
                        go_wp2_with (go_at_call 34; refine (HLS.out _).mono ?_; rintro e w2 ⟨rfl, rfl⟩)
                        refine region_seq 13 [false, false, false, false, false, false, false, false, false, false, false, false, false, false, false, false, false, false, false, false, false, false, false, false, false, false, false, false, false, false, false, false, false, false, false, false, false, false, false, false, false, false, false, false, false, false, false, false, false, false, false, false, false, false, false, false, false, false, false, false, false, false, false, false, false, false, false, false, false, false, false, false, false, false, false, false, false, false, true, true, true, true, true, true, true, true, true, true, true, true, true, false, false, false, false, false, false, false, false, false, false, false, false, false, false, false, false, false, false, false, false, false, false, false, false, false, false, false, false, false, false, false, false, false, false, false, false, false]
                          [(78, [], none), (79, [], none), (80, [], none), (81, [80], none), (82, [81], none), (83, [82], none), (84, [], none), (85, [], none), (86, [85], none), (87, [86], none), (88, [87], none), (89, [79, 83, 84, 88], none), (90, [89], none)]
                          (mvV17 oc.length cO k gh oh (r.length + 1) (ch + 1) aoO d nn) (by kernel_rfl) (by kernel_rfl) (by kernel_rfl) (by kernel_rfl) (by kernel_rfl) (by decide) (mvV17_mono oc.length cO k gh oh (r.length + 1) (ch + 1) aoO d nn) ?_ ?_
                        · refine ⟨?_, ?_, ?_, ?_, ?_, ?_, ?_, ?_, ?_, ?_, ?_, ?_, ?_, trivial⟩
                          · intro f w1 hb _ K hK
                            simp only [over, overL, Nat.reduceAdd]
                            go_simp
                            exact hK _ _ ⟨_, rfl, by simp only [over, overL, Nat.reduceAdd]; rfl, Below.refl _ _⟩
                          · intro f w1 hb _ K hK
                            simp only [over, overL, Nat.reduceAdd]
                            go_simp
                            exact hK _ _ ⟨_, rfl, by simp only [over, overL, Nat.reduceAdd]; rfl, Below.refl _ _⟩
                          · intro f w1 hb _ K hK
                            simp only [over, overL, Nat.reduceAdd]
                            go_simp
                            exact hK _ _ ⟨_, rfl, by simp only [over, overL, Nat.reduceAdd]; rfl, Below.refl _ _⟩
                          · intro f w1 hb ⟨h80, _⟩ K hK
                            replace h80 : f 80 = _ := h80
                            simp only [over, overL, Nat.reduceAdd, h80]
                            go_simp
                            exact hK _ _ ⟨_, rfl, by simp only [over, overL, Nat.reduceAdd, h80]; rfl, Below.refl _ _⟩
                          · intro f w1 hb ⟨h81, _⟩ K hK
                            replace h81 : f 81 = _ := h81
                            simp only [over, overL, Nat.reduceAdd, h81]
                            go_simp
                            exact hK _ _ ⟨_, rfl, by simp only [over, overL, Nat.reduceAdd, h81]; rfl, Below.refl _ _⟩
                          · intro f w1 hb ⟨h82, _⟩ K hK
                            replace h82 : f 82 = _ := h82
                            obtain ⟨q0, q1, q2, q3, q4⟩ := HX.out w1 hb
                            simp only [over, overL, Nat.reduceAdd, h82]
                            go_simp
                            exact hK _ _ ⟨_, rfl, by simp only [over, overL, Nat.reduceAdd, h82]; rfl, Below.refl _ _⟩
                          · intro f w1 hb _ K hK
                            simp only [over, overL, Nat.reduceAdd]
                            go_simp
                            exact hK _ _ ⟨_, rfl, by simp only [over, overL, Nat.reduceAdd]; rfl, Below.refl _ _⟩
                          · intro f w1 hb _ K hK
                            simp only [over, overL, Nat.reduceAdd]
                            go_simp
                            exact hK _ _ ⟨_, rfl, by simp only [over, overL, Nat.reduceAdd]; rfl, Below.refl _ _⟩
                          · intro f w1 hb ⟨h85, _⟩ K hK
                            replace h85 : f 85 = _ := h85
                            simp only [over, overL, Nat.reduceAdd, h85]
                            go_simp
                            exact hK _ _ ⟨_, rfl, by simp only [over, overL, Nat.reduceAdd, h85]; rfl, Below.refl _ _⟩
                          · intro f w1 hb ⟨h86, _⟩ K hK
                            replace h86 : f 86 = _ := h86
                            simp only [over, overL, Nat.reduceAdd, h86]
                            go_simp
                            exact hK _ _ ⟨_, rfl, by simp only [over, overL, Nat.reduceAdd, h86]; rfl, Below.refl _ _⟩
                          · intro f w1 hb ⟨h87, _⟩ K hK
                            replace h87 : f 87 = _ := h87
                            obtain ⟨q0, q1, q2, q3, q4⟩ := HX.out w1 hb
                            simp only [over, overL, Nat.reduceAdd, h87]
                            go_simp
                            exact hK _ _ ⟨_, rfl, by simp only [over, overL, Nat.reduceAdd, h87]; rfl, Below.refl _ _⟩
                          · intro f w1 hb ⟨h79, h83, h84, h88, _⟩ K hK
                            replace h79 : f 79 = _ := h79
                            replace h83 : f 83 = _ := h83
                            replace h84 : f 84 = _ := h84
                            replace h88 : f 88 = _ := h88
                            simp only [over, overL, Nat.reduceAdd, h79, h83, h84, h88]
                            go_simp
                            exact hK _ _ ⟨_, rfl, by simp only [over, overL, Nat.reduceAdd, h79, h83, h84, h88]; rfl, Below.refl _ _⟩
                          · intro f w1 hb ⟨h89, _⟩ K hK
                            replace h89 : f 89 = _ := h89
                            simp only [over, overL, Nat.reduceAdd, h89]
                            go_simp
                            exact hK _ _ ⟨_, ⟨w1.heap.size, rfl, Bk.new w1 [.int .i64 k, .int .i64 d.fr.1, .int .i64 d.fr.2.1, .int .i64 d.fr.2.2, .int .i64 nn, .bool d.mkd] 71 w1.heap.size rfl⟩, by simp only [over, overL, Nat.reduceAdd, h89]; rfl, (Below.refl _ _).alloc (Nat.le_refl _) _⟩
                        · intro f w3 hb3 hv
                          have h78 : f 78 = .slice aoO oc.length cO := hv.1
                          obtain ⟨b, h90, K90⟩ := (show ∃ b, f 90 = .slice (some ⟨b, 0, none⟩) 1 1 ∧ Bk b [.int .i64 k, .int .i64 d.fr.1, .int .i64 d.fr.2.1, .int .i64 d.fr.2.2, .int .i64 nn, .bool d.mkd] w3 from hv.2.2.2.2.2.2.2.2.2.2.2.2.1)
                          have I3 := HIQ.out.later hb3
                          simp only [List.drop, over, overL, Nat.reduceAdd, h78, h90]
                          refine wpList_append_row goodM Try.underlying67 infoM rfl (by decide) (by decide) w3 rfl (.tmp 78) (.tmp 90) rfl B (.slice aoO oc.length cO) oc rfl I3.out b ⟨k, d.fr, nn, d.mkd⟩ rfl (fun j u hj => K90.c j hj) (by omega) I3.bw ?_
                          intro v4 w4 o4 g4 n4
                          have I4 := I3.appOut o4 g4 n4
                          have HI4 : Hid (MvI w B w4 v4 (.slice (some ⟨gh, oh, none⟩) (r.length + 1) (ch + 1)) (.slice aoM mc.length cM) (oc ++ [⟨k, d.fr, nn, d.mkd⟩]) (d :: r) mc) := I4
                          have K4 := bk_grown (HKQ.out.later hb3) g4 HOQ.out.1
                          have HK4 : Hid (Bk wo.heap.size (acl a) w4) := K4
                          have hs4 : wo.heap.size < w4.heap.size := Nat.lt_of_lt_of_le hsq (Nat.le_trans hb3.size g4.size)
                          have HO4 : Hid (v4.ownBlock ≠ some wo.heap.size ∧ (Value.slice (some ⟨gh, oh, none⟩) (r.length + 1) (ch + 1)).ownBlock ≠ some wo.heap.size ∧ (Value.slice aoM mc.length cM).ownBlock ≠ some wo.heap.size) := by
                            refine ⟨?_, HOQ.out.2.1, HOQ.out.2.2⟩
                            rcases n4 with h | h
                            · rw [h]; exact HOQ.out.1
                            · rw [h]
                              intro e
                              injection e with e
                              have := hb3.size
                              omega
                          obtain ⟨u0, u1, u2, u3, u4, uf3⟩ := I4.held.at0
                          have e1 := K4.c 1 rfl
                          have e2 := K4.c 2 rfl
                          have e3 := K4.c 3 rfl
                          clear I4 I3 K4 o4 g4 n4 hv K90 hb3 e0 p0 p1 p2 p3 p4 pf3
                          have HMR4 : Hid (RdR encP w4 aoM mc) := HI4.out.marks.rd goodP
                          obtain ⟨aoV, nV, cV, rfl⟩ := HI4.out.out.form
                          by_cases hmk : d.mkd = true
                          · rw [hmk] at u4
                            by_cases hin : a.pl ∈ mc
                            · have hpi : 0 ≤ piR mc a.pl := piR_mem.2 hin
                              have HAD : Hid (addM d.mkd a.pl mc = mc) := if_neg (fun h => h.2 hin)
                              clear hin
                              by_cases hlt2 : vv < d.vol
                              · have hne0 : (d.vol - nn == 0) = false := by have := HNN.out; rw [if_pos hlt2] at this; simp; omega
                                have HNV : Hid (nn = vv) := by have := HNN.out; rwa [if_pos hlt2] at this
                                go_wp2_with (go_at_call 33; refine (placeIn_any aoM cM mc a.pl _ HMR4.out (by omega)).mono ?_; rintro e w5 ⟨rfl, hb5⟩; have I5 := HI4.out.later hb5; obtain ⟨x0, x1, x2, x3, x4, xf3⟩ := I5.held.at0; have K5 := HK4.out.later hb5; have y1 := K5.c 1 rfl; have y2 := K5.c 2 rfl; have y3 := K5.c 3 rfl)
                                go_roundw
                                case rel =>
                                  have hmv : mvP k a.pl vv (d :: r) mc = ([⟨k, d.fr, vv, d.mkd⟩], ⟨d.fr, d.vol - vv, d.mkd⟩ :: r, addM d.mkd a.pl mc) := by rw [mvP, if_pos hp, if_pos hlt2]
                                  refine ⟨_, _, _, vv - nn, o' ++ [⟨k, d.fr, nn, d.mkd⟩], oc ++ [⟨k, d.fr, nn, d.mkd⟩], ⟨d.fr, d.vol - nn, d.mkd⟩ :: r, mc, by rw [HOC.out, List.append_assoc], rfl, rfl, rfl, rfl, I5.less (d.vol - nn), K5.other (fun e => HO4.out.2.1 (by rw [e]; rfl)) _ _, HO4.out, ?_, by omega, by simpa [World.setCell] using (Nat.lt_of_lt_of_le hs4 hb5.size), ?_, ?_⟩
                                  · intro x hx
                                    rcases List.mem_cons.1 hx with rfl | hx
                                    · simp only; omega
                                    · exact HDQ.out x (by simp [hx])
                                  · rw [HE1.out, hmv, ← HNV.out, HAD.out]
                                    simp [mvP]
                                  · rw [HE2.out, hmv, ← HNV.out, HAD.out]
                                    simp [mvP]
                                case measure => simp [intOf]; omega
                              · have hnv : nn = d.vol := by have := HNN.out; rwa [if_neg hlt2] at this
                                have hw64 : d.vol - nn = 0 := by omega
                                have hmv : mvP k a.pl vv (d :: r) mc = (⟨k, d.fr, d.vol, d.mkd⟩ :: (mvP k a.pl (vv - d.vol) r (addM d.mkd a.pl mc)).1, (mvP k a.pl (vv - d.vol) r (addM d.mkd a.pl mc)).2) := by rw [mvP, if_pos hp, if_neg hlt2]
                                have HMV : Hid (mvP k a.pl vv (d :: r) mc = (⟨k, d.fr, d.vol, d.mkd⟩ :: (mvP k a.pl (vv - d.vol) r (addM d.mkd a.pl mc)).1, (mvP k a.pl (vv - d.vol) r (addM d.mkd a.pl mc)).2)) := hmv
                                have HNV : Hid (nn = d.vol) := hnv
                                subst hnv
                                clear hmv
                                by_cases hcap : ch = 0
                                · subst hcap
                                  have hr0 : r = [] := List.eq_nil_of_length_eq_zero (by omega)
                                  subst hr0
                                  go_wp2_with (go_at_call 33; refine (placeIn_any aoM cM mc a.pl _ HMR4.out (by omega)).mono ?_; rintro e w5 ⟨rfl, hb5⟩; have I5 := HI4.out.later hb5; obtain ⟨x0, x1, x2, x3, x4, xf3⟩ := I5.held.at0; have K5 := HK4.out.later hb5; have y1 := K5.c 1 rfl; have y2 := K5.c 2 rfl; have y3 := K5.c 3 rfl)
                                  go_roundw
                                  case rel =>
                                    have ht := (I5.less (d.vol - d.vol)).tail
                                    rw [if_pos rfl] at ht
                                    refine ⟨_, _, _, vv - d.vol, o' ++ [⟨k, d.fr, d.vol, d.mkd⟩], oc ++ [⟨k, d.fr, d.vol, d.mkd⟩], [], mc, by rw [HOC.out, List.append_assoc], rfl, rfl, rfl, rfl, ?_, ?_, HO4.out, fun x hx => by simp at hx, by omega, ?_, ?_, ?_⟩
                                    · simpa using ht
                                    · simpa using K5.other (fun e => HO4.out.2.1 (by rw [e]; rfl)) (oh + 3) (.int .i64 (d.vol - d.vol))
                                    · simpa [World.setCell] using (Nat.lt_of_lt_of_le hs4 hb5.size)
                                    · rw [HE1.out, HMV.out, HAD.out]; simp
                                    · rw [HE2.out, HMV.out, HAD.out]
                                  case measure => simp [intOf]; omega
                                · go_wp2_with (go_at_call 33; refine (placeIn_any aoM cM mc a.pl _ HMR4.out (by omega)).mono ?_; rintro e w5 ⟨rfl, hb5⟩; have I5 := HI4.out.later hb5; obtain ⟨x0, x1, x2, x3, x4, xf3⟩ := I5.held.at0; have K5 := HK4.out.later hb5; have y1 := K5.c 1 rfl; have y2 := K5.c 2 rfl; have y3 := K5.c 3 rfl)
                                  go_roundw
                                  case rel =>
                                    have ht := (I5.less (d.vol - d.vol)).tail
                                    rw [if_neg hcap] at ht
                                    refine ⟨_, _, _, vv - d.vol, o' ++ [⟨k, d.fr, d.vol, d.mkd⟩], oc ++ [⟨k, d.fr, d.vol, d.mkd⟩], r, mc, by rw [HOC.out, List.append_assoc], rfl, rfl, rfl, rfl, ?_, ?_, HO4.out, fun x hx => HDQ.out x (by simp [hx]), by omega, ?_, ?_, ?_⟩
                                    · simpa using ht
                                    · simpa using K5.other (fun e => HO4.out.2.1 (by rw [e]; rfl)) (oh + 3) (.int .i64 (d.vol - d.vol))
                                    · simpa [World.setCell] using (Nat.lt_of_lt_of_le hs4 hb5.size)
                                    · rw [HE1.out, HMV.out, HAD.out]; simp
                                    · rw [HE2.out, HMV.out, HAD.out]
                                  case measure => simp [intOf]; omega
                            · have hpi : piR mc a.pl = -1 := piR_none hin
                              have HAD : Hid (addM d.mkd a.pl mc = mc ++ [a.pl]) := if_pos ⟨hmk, hin⟩
                              clear hin
                              by_cases hlt2 : vv < d.vol
                              · have hne0 : (d.vol - nn == 0) = false := by have := HNN.out; rw [if_pos hlt2] at this; simp; omega
                                have HNV : Hid (nn = vv) := by have := HNN.out; rwa [if_pos hlt2] at this
                                go_wp2_with (first
                                | (go_at_call 33; refine (placeIn_any aoM cM mc a.pl _ HMR4.out (by omega)).mono ?_; rintro e w5 ⟨rfl, hb5⟩; have I5 := HI4.out.later hb5; obtain ⟨x0, x1, x2, x3, x4, xf3⟩ := I5.held.at0; have K5 := HK4.out.later hb5; have y1 := K5.c 1 rfl; have y2 := K5.c 2 rfl; have y3 := K5.c 3 rfl)
                                | (at_builtin; refine wpList_append_row goodP Try.underlying32 infoP rfl (by decide) (by decide) _ rfl (.tmp 103) (.tmp 106) rfl B (.slice aoM mc.length cM) mc rfl (I5.marks.alloc _) w5.heap.size a.pl rfl (fun j u hu => three_new w5 _ _ _ _ j u hu) (by omega) (by have := I5.bw; simp; omega) ?_; intro v6 w6 o6 g6 n6; have I6 := (I5.later ((Below.refl _ _).alloc (Nat.le_refl _) _)).appMarks o6 g6 n6; obtain ⟨z0, z1, z2, z3, z4, zf3⟩ := I6.held.at0; obtain ⟨aoN, nN, cN, rfl⟩ := o6.form))
                                go_roundw
                                case rel =>
                                  have hmv : mvP k a.pl vv (d :: r) mc = ([⟨k, d.fr, vv, d.mkd⟩], ⟨d.fr, d.vol - vv, d.mkd⟩ :: r, addM d.mkd a.pl mc) := by rw [mvP, if_pos hp, if_pos hlt2]
                                  refine ⟨_, _, _, vv - nn, o' ++ [⟨k, d.fr, nn, d.mkd⟩], oc ++ [⟨k, d.fr, nn, d.mkd⟩], ⟨d.fr, d.vol - nn, d.mkd⟩ :: r, (mc ++ [a.pl]), by rw [HOC.out, List.append_assoc], rfl, rfl, rfl, rfl, I6.less (d.vol - nn), (bk_grown (K5.later ((Below.refl _ _).alloc (Nat.le_refl _) _)) g6 HO4.out.2.2).other (fun e => HO4.out.2.1 (by rw [e]; rfl)) _ _, ⟨HO4.out.1, HO4.out.2.1, by
                                    rcases n6 with h | h
                                    · rw [h]; exact HO4.out.2.2
                                    · rw [h]
                                      intro e
                                      injection e with e
                                      have := hb5.size
                                      simp at e
                                      omega⟩, ?_, by omega, by simpa [World.setCell] using (Nat.lt_of_lt_of_le (Nat.lt_of_lt_of_le hs4 hb5.size) (Nat.le_trans (by simp) g6.size)), ?_, ?_⟩
                                  · intro x hx
                                    rcases List.mem_cons.1 hx with rfl | hx
                                    · simp only; omega
                                    · exact HDQ.out x (by simp [hx])
                                  · rw [HE1.out, hmv, ← HNV.out, HAD.out]
                                    simp [mvP]
                                  · rw [HE2.out, hmv, ← HNV.out, HAD.out]
                                    simp [mvP]
                                case measure => simp [intOf]; omega
                              · have hnv : nn = d.vol := by have := HNN.out; rwa [if_neg hlt2] at this
                                have hw64 : d.vol - nn = 0 := by omega
                                have hmv : mvP k a.pl vv (d :: r) mc = (⟨k, d.fr, d.vol, d.mkd⟩ :: (mvP k a.pl (vv - d.vol) r (addM d.mkd a.pl mc)).1, (mvP k a.pl (vv - d.vol) r (addM d.mkd a.pl mc)).2) := by rw [mvP, if_pos hp, if_neg hlt2]
                                have HMV : Hid (mvP k a.pl vv (d :: r) mc = (⟨k, d.fr, d.vol, d.mkd⟩ :: (mvP k a.pl (vv - d.vol) r (addM d.mkd a.pl mc)).1, (mvP k a.pl (vv - d.vol) r (addM d.mkd a.pl mc)).2)) := hmv
                                have HNV : Hid (nn = d.vol) := hnv
                                subst hnv
                                clear hmv
                                by_cases hcap : ch = 0
                                · subst hcap
                                  have hr0 : r = [] := List.eq_nil_of_length_eq_zero (by omega)
                                  subst hr0
                                  go_wp2_with (first
                                | (go_at_call 33; refine (placeIn_any aoM cM mc a.pl _ HMR4.out (by omega)).mono ?_; rintro e w5 ⟨rfl, hb5⟩; have I5 := HI4.out.later hb5; obtain ⟨x0, x1, x2, x3, x4, xf3⟩ := I5.held.at0; have K5 := HK4.out.later hb5; have y1 := K5.c 1 rfl; have y2 := K5.c 2 rfl; have y3 := K5.c 3 rfl)
                                | (at_builtin; refine wpList_append_row goodP Try.underlying32 infoP rfl (by decide) (by decide) _ rfl (.tmp 103) (.tmp 106) rfl B (.slice aoM mc.length cM) mc rfl (I5.marks.alloc _) w5.heap.size a.pl rfl (fun j u hu => three_new w5 _ _ _ _ j u hu) (by omega) (by have := I5.bw; simp; omega) ?_; intro v6 w6 o6 g6 n6; have I6 := (I5.later ((Below.refl _ _).alloc (Nat.le_refl _) _)).appMarks o6 g6 n6; obtain ⟨z0, z1, z2, z3, z4, zf3⟩ := I6.held.at0; obtain ⟨aoN, nN, cN, rfl⟩ := o6.form))
                                  go_roundw
                                  case rel =>
                                    have ht := (I6.less (d.vol - d.vol)).tail
                                    rw [if_pos rfl] at ht
                                    refine ⟨_, _, _, vv - d.vol, o' ++ [⟨k, d.fr, d.vol, d.mkd⟩], oc ++ [⟨k, d.fr, d.vol, d.mkd⟩], [], (mc ++ [a.pl]), by rw [HOC.out, List.append_assoc], rfl, rfl, rfl, rfl, ?_, ?_, ⟨HO4.out.1, HO4.out.2.1, by
                                    rcases n6 with h | h
                                    · rw [h]; exact HO4.out.2.2
                                    · rw [h]
                                      intro e
                                      injection e with e
                                      have := hb5.size
                                      simp at e
                                      omega⟩, fun x hx => by simp at hx, by omega, ?_, ?_, ?_⟩
                                    · simpa using ht
                                    · simpa using (bk_grown (K5.later ((Below.refl _ _).alloc (Nat.le_refl _) _)) g6 HO4.out.2.2).other (fun e => HO4.out.2.1 (by rw [e]; rfl)) (oh + 3) (.int .i64 (d.vol - d.vol))
                                    · simpa [World.setCell] using (Nat.lt_of_lt_of_le (Nat.lt_of_lt_of_le hs4 hb5.size) (Nat.le_trans (by simp) g6.size))
                                    · rw [HE1.out, HMV.out, HAD.out]; simp
                                    · rw [HE2.out, HMV.out, HAD.out]
                                  case measure => simp [intOf]; omega
                                · go_wp2_with (first
                                | (go_at_call 33; refine (placeIn_any aoM cM mc a.pl _ HMR4.out (by omega)).mono ?_; rintro e w5 ⟨rfl, hb5⟩; have I5 := HI4.out.later hb5; obtain ⟨x0, x1, x2, x3, x4, xf3⟩ := I5.held.at0; have K5 := HK4.out.later hb5; have y1 := K5.c 1 rfl; have y2 := K5.c 2 rfl; have y3 := K5.c 3 rfl)
                                | (at_builtin; refine wpList_append_row goodP Try.underlying32 infoP rfl (by decide) (by decide) _ rfl (.tmp 103) (.tmp 106) rfl B (.slice aoM mc.length cM) mc rfl (I5.marks.alloc _) w5.heap.size a.pl rfl (fun j u hu => three_new w5 _ _ _ _ j u hu) (by omega) (by have := I5.bw; simp; omega) ?_; intro v6 w6 o6 g6 n6; have I6 := (I5.later ((Below.refl _ _).alloc (Nat.le_refl _) _)).appMarks o6 g6 n6; obtain ⟨z0, z1, z2, z3, z4, zf3⟩ := I6.held.at0; obtain ⟨aoN, nN, cN, rfl⟩ := o6.form))
                                  go_roundw
                                  case rel =>
                                    have ht := (I6.less (d.vol - d.vol)).tail
                                    rw [if_neg hcap] at ht
                                    refine ⟨_, _, _, vv - d.vol, o' ++ [⟨k, d.fr, d.vol, d.mkd⟩], oc ++ [⟨k, d.fr, d.vol, d.mkd⟩], r, (mc ++ [a.pl]), by rw [HOC.out, List.append_assoc], rfl, rfl, rfl, rfl, ?_, ?_, ⟨HO4.out.1, HO4.out.2.1, by
                                    rcases n6 with h | h
                                    · rw [h]; exact HO4.out.2.2
                                    · rw [h]
                                      intro e
                                      injection e with e
                                      have := hb5.size
                                      simp at e
                                      omega⟩, fun x hx => HDQ.out x (by simp [hx]), by omega, ?_, ?_, ?_⟩
                                    · simpa using ht
                                    · simpa using (bk_grown (K5.later ((Below.refl _ _).alloc (Nat.le_refl _) _)) g6 HO4.out.2.2).other (fun e => HO4.out.2.1 (by rw [e]; rfl)) (oh + 3) (.int .i64 (d.vol - d.vol))
                                    · simpa [World.setCell] using (Nat.lt_of_lt_of_le (Nat.lt_of_lt_of_le hs4 hb5.size) (Nat.le_trans (by simp) g6.size))
                                    · rw [HE1.out, HMV.out, HAD.out]; simp
                                    · rw [HE2.out, HMV.out, HAD.out]
                                  case measure => simp [intOf]; omega
                          · have hmf : d.mkd = false := by simpa using hmk
                            rw [hmf] at u4
                            have HAD : Hid (addM d.mkd a.pl mc = mc) := if_neg (fun h => hmk h.1)
                            by_cases hlt2 : vv < d.vol
                            · have hne0 : (d.vol - nn == 0) = false := by have := HNN.out; rw [if_pos hlt2] at this; simp; omega
                              have HNV : Hid (nn = vv) := by have := HNN.out; rwa [if_pos hlt2] at this
                              go_wp2
                              go_roundw
                              case rel =>
                                have hmv : mvP k a.pl vv (d :: r) mc = ([⟨k, d.fr, vv, d.mkd⟩], ⟨d.fr, d.vol - vv, d.mkd⟩ :: r, addM d.mkd a.pl mc) := by rw [mvP, if_pos hp, if_pos hlt2]
                                refine ⟨_, _, _, vv - nn, o' ++ [⟨k, d.fr, nn, d.mkd⟩], oc ++ [⟨k, d.fr, nn, d.mkd⟩], ⟨d.fr, d.vol - nn, d.mkd⟩ :: r, mc, by rw [HOC.out, List.append_assoc], rfl, rfl, rfl, rfl, HI4.out.less (d.vol - nn), HK4.out.other (fun e => HO4.out.2.1 (by rw [e]; rfl)) _ _, HO4.out, ?_, by omega, by simpa [World.setCell] using hs4, ?_, ?_⟩
                                · intro x hx
                                  rcases List.mem_cons.1 hx with rfl | hx
                                  · simp only; omega
                                  · exact HDQ.out x (by simp [hx])
                                · rw [HE1.out, hmv, ← HNV.out, HAD.out]
                                  simp [mvP]
                                · rw [HE2.out, hmv, ← HNV.out, HAD.out]
                                  simp [mvP]
                              case measure => simp [intOf]; omega
                            · have hnv : nn = d.vol := by have := HNN.out; rwa [if_neg hlt2] at this
                              have hw64 : d.vol - nn = 0 := by omega
                              have hmv : mvP k a.pl vv (d :: r) mc = (⟨k, d.fr, d.vol, d.mkd⟩ :: (mvP k a.pl (vv - d.vol) r (addM d.mkd a.pl mc)).1, (mvP k a.pl (vv - d.vol) r (addM d.mkd a.pl mc)).2) := by rw [mvP, if_pos hp, if_neg hlt2]
                              have HMV : Hid (mvP k a.pl vv (d :: r) mc = (⟨k, d.fr, d.vol, d.mkd⟩ :: (mvP k a.pl (vv - d.vol) r (addM d.mkd a.pl mc)).1, (mvP k a.pl (vv - d.vol) r (addM d.mkd a.pl mc)).2)) := hmv
                              have HNV : Hid (nn = d.vol) := hnv
                              subst hnv
                              clear hmv
                              by_cases hcap : ch = 0
                              · subst hcap
                                have hr0 : r = [] := List.eq_nil_of_length_eq_zero (by omega)
                                subst hr0
                                go_wp2
                                go_roundw
                                case rel =>
                                  have ht := (HI4.out.less (d.vol - d.vol)).tail
                                  rw [if_pos rfl] at ht
                                  refine ⟨_, _, _, vv - d.vol, o' ++ [⟨k, d.fr, d.vol, d.mkd⟩], oc ++ [⟨k, d.fr, d.vol, d.mkd⟩], [], mc, by rw [HOC.out, List.append_assoc], rfl, rfl, rfl, rfl, ?_, ?_, HO4.out, fun x hx => by simp at hx, by omega, ?_, ?_, ?_⟩
                                  · simpa using ht
                                  · simpa using HK4.out.other (fun e => HO4.out.2.1 (by rw [e]; rfl)) (oh + 3) (.int .i64 (d.vol - d.vol))
                                  · simpa [World.setCell] using hs4
                                  · rw [HE1.out, HMV.out, HAD.out]; simp
                                  · rw [HE2.out, HMV.out, HAD.out]
                                case measure => simp [intOf]; omega
                              · go_wp2
                                go_roundw
                                case rel =>
                                  have ht := (HI4.out.less (d.vol - d.vol)).tail
                                  rw [if_neg hcap] at ht
                                  refine ⟨_, _, _, vv - d.vol, o' ++ [⟨k, d.fr, d.vol, d.mkd⟩], oc ++ [⟨k, d.fr, d.vol, d.mkd⟩], r, mc, by rw [HOC.out, List.append_assoc], rfl, rfl, rfl, rfl, ?_, ?_, HO4.out, fun x hx => HDQ.out x (by simp [hx]), by omega, ?_, ?_, ?_⟩
                                  · simpa using ht
                                  · simpa using HK4.out.other (fun e => HO4.out.2.1 (by rw [e]; rfl)) (oh + 3) (.int .i64 (d.vol - d.vol))
                                  · simpa [World.setCell] using hs4
                                  · rw [HE1.out, HMV.out, HAD.out]; simp
                                  · rw [HE2.out, HMV.out, HAD.out]
                                case measure => simp [intOf]; omega
                    · clear hE1 hE2
                      have HX1 : Hid ((mvP k a.pl a.vol sheld smarks).1 = o' ∧ (mvP k a.pl a.vol sheld smarks).2 = (hc, mc)) := by
                        have h : mvP k a.pl vv hc mc = ([], hc, mc) := by
                          cases hc with
                          | nil => rfl
                          | cons x y => rw [mvP, if_neg hp]
                        exact ⟨by rw [HE1.out, h]; simp, by rw [HE2.out, h]⟩
                      obtain ⟨aoH, cH, rfl⟩ := HIQ.out.held.form
                      go_wp2
                      go_roundw
                      case rel =>
                        refine ⟨k + 1, _, _, _, mvS k a ⟨sout, true, sheld, smarks⟩, by omega, rfl, rfl, by rw [HEQ.out], rfl, by go_num, HNX.out, ?_⟩
                        rw [HEQ.out]
                        simp only
                        rw [HX1.out.1, HX1.out.2, ← HOC.out]
                        exact HIQ.out
                      case measure => simp [intOf]; omega
                · have b9 : (a.kind == 9) = false := by simp [h9]
                  have HEQ : Hid (mvS k a ⟨sout, true, sheld, smarks⟩ = ⟨sout, true, sheld, smarks⟩) := mv_else h6 h7 h8 h9
                  clear h6 h7 h8 h9 hv1
                  go_wp2_with (go_at_call 32; refine (HW.out _).mono ?_; rintro e w2 ⟨rfl, rfl⟩)
                  go_loopw [1, 6, 8, 11] (fun q1 q6 q8 q11 wr => q1 = mv ∧ q6 = ov ∧ q8 = hv ∧ q11 = .int .i64 a.vol ∧ wr = wo.alloc (aobj a)) (fun _ _ _ _ _ => 0)
                  case atStart => exact ⟨rfl, rfl, rfl, rfl, rfl⟩
                  case round =>
                    obtain ⟨rfl, rfl, rfl, rfl, rfl⟩ := hrel
                    go_wp2
                    go_roundw
                    case rel => exact ⟨k + 1, _, _, _, mvS k a ⟨sout, true, sheld, smarks⟩, by omega, rfl, rfl, by rw [HEQ.out], rfl, by go_num, HNX.out, by rw [HEQ.out]; exact HI1.out⟩
                    case measure => simp [intOf]; omega
            · rw [decide_eq_false hv1] at HW
              have HEQ : Hid (mvS k a ⟨sout, true, sheld, smarks⟩ = ⟨sout, true, sheld, smarks⟩) := mv_out h6 h7 (fun h => hv1 h.2)
              clear h6 h7 hv1
              go_wp2_with (go_at_call 32; refine (HW.out _).mono ?_; rintro e w2 ⟨rfl, rfl⟩)
              go_roundw
              case rel => exact ⟨k + 1, _, _, _, mvS k a ⟨sout, true, sheld, smarks⟩, by omega, rfl, rfl, by rw [HEQ.out], rfl, by go_num, HNX.out, by rw [HEQ.out]; exact HI1.out⟩
              case measure => simp [intOf]; omega
    · have hki : ¬ (k : Int) < (acs.length : Int) := by omega
      have e : moves (acs.take k) ms = moves acs ms := by rw [List.take_of_length_le (by omega)]
      have HF : Hid (s = moves acs ms) := HS.out.trans e
      clear e
      go_wp2
      go_ret2
      refine ⟨HI.out.bel, _, _, rfl, ?_, ?_⟩
      · rw [← HF.out]; exact HI.out.out
      · rw [← HF.out]; exact HI.out.marks
end Go.Proofs.Ytgbnjgenopdmfaa
