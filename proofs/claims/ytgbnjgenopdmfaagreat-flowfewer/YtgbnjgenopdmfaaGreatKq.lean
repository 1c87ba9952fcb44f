import Derived.Test.YtgbnjgenopdmfaaGreatKp
import Derived.Deep.Cut
import Derived.Deep.CutRange

/- save walked. -/
namespace Go.Proofs.YtgbnjgenopdmfaaGreat
open Go.RowKit Go.Maps
theorem SmIn.but2 {b m : Nat} {w w1 : World} {t : Sm} (h : SmIn w t) (hi : SmOff b t) (hj : SmOff m t) (hbut : But b m w w1) : SmIn w1 t := by
  have two : ∀ {α : Type} {ps : List α} {ao : Option Addr}, (ps = [] ∨ ∀ a, ao = some a → a.block ≠ b) → (ps = [] ∨ ∀ a, ao = some a → a.block ≠ m) → (ps = [] ∨ ∀ a, ao = some a → a.block ≠ b ∧ a.block ≠ m) := fun h1 h2 => h1.elim .inl fun h1 => h2.imp id fun h2 a ha => ⟨h1 a ha, h2 a ha⟩
  refine ⟨?_, (Flx.but ⟨h.held, two hi.held hj.held⟩ hbut).1, (Txx.but ⟨h.touched, two hi.touched hj.touched⟩ hbut).1⟩
  rcases h.wells with e | ⟨g, off, e, hc⟩
  · exact .inl e
  · rcases two hi.row hj.row with e2 | hr
    · exact .inl e2
    · have hg := hr _ e
      refine .inr ⟨g, off, e, fun k hk => ?_⟩
      obtain ⟨h0, h1, h2, h3, h4, h5⟩ := hc k hk
      have hbl := hbut.block g h0 hg.1 hg.2
      exact ⟨Nat.lt_of_lt_of_le h0 hbut.size, (World.cell?_of_block (w := w) hbl).trans h1, (World.cell?_of_block (w := w) hbl).trans h2, (World.cell?_of_block (w := w) hbl).trans h3, (World.cell?_of_block (w := w) hbl).trans h4, (Flx.but ⟨h5, two (hi.fl _ (List.getElem_mem hk)) (hj.fl _ (List.getElem_mem hk))⟩ hbut).1⟩
theorem Sv.did {X : Nat → Prop} {wB w w1 : World} {ao : Option Addr} {cap : Nat} {l : List Sit} {sb g capA b m : Nat} {acs : List Acn} {e : Sm} {st : Sta} (h : Sv X wB w ao cap l sb g capA b m acs e st) (hbu : But b m w w1) {st' : Sta} (hF : Fb X wB w1 ao cap l b m st') : Sv X wB w1 ao cap l sb g capA b m acs e st' :=
  ⟨h.bk.same hbu.size (hbu.block sb h.bk.1 h.ne.2.2.1 h.ne.2.2.2), h.lf.same hbu.size (hbu.block g h.lf.1 h.ne.2.1.1 h.ne.2.1.2), h.capA, hF, h.eoff, h.e.but2 (h.eoff b h.fb.x.1) (h.eoff m h.fb.x.2) hbu, h.off, h.ne, h.lb, h.few, h.ok⟩
theorem Sv.less {X : Nat → Prop} {wB w w1 : World} {ao : Option Addr} {cap : Nat} {l : List Sit} {sb g capA b m : Nat} {acs : List Acn} {e : Sm} {st : Sta} (h : Sv X wB w ao cap l sb g capA b m acs e st) (hbu : But g g w w1) {A : List Acn} (hA : Lf w1 g A) (hlen : A.length ≤ acs.length) (hsub : ∀ a ∈ A, a ∈ acs) {n : Nat} (hn : A.length = n) :
    Sv X wB (w1.setCell ⟨sb, 1, none⟩ (.slice (some ⟨g, 0, none⟩) n capA)) ao cap l sb g capA b m A e st := by
  subst hn
  have b2 : But sb sb w1 (w1.setCell ⟨sb, 1, none⟩ (.slice (some ⟨g, 0, none⟩) A.length capA)) := but_set sb sb w1 1 _
  have hne := h.ne
  have hgl := h.lf.1
  have hsz := hbu.size
  refine ⟨(h.bk.same hbu.size (hbu.block sb h.bk.1 (Ne.symm hne.1) (Ne.symm hne.1))).put 1 _, hA.same b2.size (b2.block g hA.1 hne.1 hne.1), ⟨Nat.le_trans hlen h.capA.1, h.capA.2⟩,
    (h.fb.but hbu ⟨h.off.1, h.off.1⟩ ⟨h.lb.1, h.lb.1⟩ ⟨⟨Ne.symm hne.2.1.1, Ne.symm hne.2.1.1⟩, Ne.symm hne.2.1.2, Ne.symm hne.2.1.2⟩).but b2 ⟨h.off.2, h.off.2⟩ ⟨h.lb.2, h.lb.2⟩ ⟨⟨Ne.symm hne.2.2.1, Ne.symm hne.2.2.1⟩, Ne.symm hne.2.2.2, Ne.symm hne.2.2.2⟩,
    h.eoff, (h.e.but' (h.eoff g h.off.1) hbu).but' (h.eoff sb h.off.2) b2, h.off, h.ne, h.lb, Nat.le_trans hlen h.few, fun a ha => h.ok a (hsub a ha)⟩
/-- The next action is done, too. -/
theorem run_next {l : List Sit} {A : List Acn} {k : Nat} {s1 tA : Sta} (hk : k < A.length) (h1 : runO l (A.take k) sta0 = some s1) (h2 : runO l A sta0 = some tA) : ∃ s2, runO l (A.take (k + 1)) sta0 = some s2 ∧ runO l [A[k]'hk] s1 = some s2 := by
  have e : A.take (k + 1) = A.take k ++ [A[k]'hk] := by rw [List.take_succ_eq_append_getElem]
  have e2 : A = A.take (k + 1) ++ A.drop (k + 1) := (List.take_append_drop _ _).symm
  cases h : runO l (A.take (k + 1)) sta0 with
  | none => rw [e2, runO_append, h] at h2; cases h2
  | some s2 =>
    refine ⟨s2, rfl, ?_⟩
    rw [e, runO_append, h1] at h
    exact h
theorem tkn_at {A : List Acn} {k tk : Nat} (hk : k < A.length) : tkn A k tk = if (A[k]'hk).kind = 6 then k else tk := by
  unfold tkn
  rw [List.getElem?_eq_getElem hk]
  simp
theorem off_parts {l : List Sit} {e : Sta} {A : List Acn} {k tk n : Nat} (hn : A.length = n) (h : offB l e A k tk = true) : Chg A k ∧ sameSrc ((A.take k).drop tk) (untilR (A.drop (k + 2))) = true ∧ goR l e A k = true ∧ k + 2 < n := by
  simp only [offB, Bool.and_eq_true] at h
  refine ⟨chg_iff.1 h.1, h.2.1, h.2.2, ?_⟩
  have h2 := h.2.1
  by_cases hl : k + 2 < n
  · exact hl
  · rw [List.drop_eq_nil_of_le (show A.length ≤ k + 2 by omega)] at h2
    simp [sameSrc, untilR, src, srcR] at h2
theorem goR_true {l : List Sit} {e : Sta} {A : List Acn} {k : Nat} (h : goR l e A k = true) : ∃ t, runO l (A.take k ++ A.drop (k + 2)) sta0 = some t ∧ alikeB t e = true := by
  unfold goR at h
  cases h1 : runO l (A.take k ++ A.drop (k + 2)) sta0 with
  | none => rw [h1] at h; cases h
  | some t => rw [h1] at h; exact ⟨t, rfl, h⟩
set_option linter.unusedVariables false in
def svA (sb g n capA k tk j u : Nat) (goV : Bool) (d : Nat) (v : Value) (_ : World) : Prop :=
  match d with
  | 23 => v = .pointer (some ⟨sb, 0, none⟩)
  | 24 => v = .pointer (some ⟨sb, 0, none⟩)
  | 25 => v = .pointer (some ⟨sb, 1, none⟩)
  | 26 => v = .slice (some ⟨g, 0, none⟩) n capA
  | 27 => v = .int .i64 (k : Int)
  | 28 => v = .slice (some ⟨g, k * 8, none⟩) (n - k) (capA - k)
  | 29 => v = .bool false
  | 30 => v = .bool false
  | 47 => v = .bool false
  | 48 => v = .bool false
  | 52 => v = .bool false
  | _ => True
set_option linter.unusedVariables false in
theorem svA_mono (sb g n capA k tk j u : Nat) (goV : Bool) (d : Nat) (v : Value) (w w' : World) (h : svA sb g n capA k tk j u goV d v w) (_ : Below w.heap.size w w') : svA sb g n capA k tk j u goV d v w' := h
set_option linter.unusedVariables false in
def svB (sb g n capA k tk j u : Nat) (goV : Bool) (d : Nat) (v : Value) (_ : World) : Prop :=
  match d with
  | 23 => v = .pointer (some ⟨sb, 0, none⟩)
  | 24 => v = .pointer (some ⟨sb, 0, none⟩)
  | 25 => v = .pointer (some ⟨sb, 1, none⟩)
  | 26 => v = .slice (some ⟨g, 0, none⟩) n capA
  | 27 => v = .int .i64 (k : Int)
  | 28 => v = .slice (some ⟨g, k * 8, none⟩) (n - k) (capA - k)
  | 29 => v = .bool true
  | 30 => v = .bool true
  | 31 => v = .pointer (some ⟨sb, 0, none⟩)
  | 32 => v = .pointer (some ⟨sb, 0, none⟩)
  | 33 => v = .pointer (some ⟨sb, 1, none⟩)
  | 34 => v = .slice (some ⟨g, 0, none⟩) n capA
  | 35 => v = .int .i64 (tk : Int)
  | 36 => v = .int .i64 (k : Int)
  | 37 => v = .slice (some ⟨g, tk * 8, none⟩) (k - tk) (capA - tk)
  | 38 => v = .pointer (some ⟨sb, 0, none⟩)
  | 39 => v = .pointer (some ⟨sb, 0, none⟩)
  | 40 => v = .pointer (some ⟨sb, 1, none⟩)
  | 41 => v = .slice (some ⟨g, 0, none⟩) n capA
  | 42 => v = .int .i64 (k : Int)
  | 43 => v = .int .i64 (j : Int)
  | 44 => v = .slice (some ⟨g, j * 8, none⟩) (n - j) (capA - j)
  | 45 => v = .slice (some ⟨g, j * 8, none⟩) u (capA - j)
  | 46 => v = .bool false
  | 47 => v = .bool false
  | 48 => v = .bool false
  | 52 => v = .bool false
  | _ => True
set_option linter.unusedVariables false in
theorem svB_mono (sb g n capA k tk j u : Nat) (goV : Bool) (d : Nat) (v : Value) (w w' : World) (h : svB sb g n capA k tk j u goV d v w) (_ : Below w.heap.size w w') : svB sb g n capA k tk j u goV d v w' := h
set_option linter.unusedVariables false in
def svC (sb g n capA k tk j u : Nat) (goV : Bool) (d : Nat) (v : Value) (_ : World) : Prop :=
  match d with
  | 23 => v = .pointer (some ⟨sb, 0, none⟩)
  | 24 => v = .pointer (some ⟨sb, 0, none⟩)
  | 25 => v = .pointer (some ⟨sb, 1, none⟩)
  | 26 => v = .slice (some ⟨g, 0, none⟩) n capA
  | 27 => v = .int .i64 (k : Int)
  | 28 => v = .slice (some ⟨g, k * 8, none⟩) (n - k) (capA - k)
  | 29 => v = .bool true
  | 30 => v = .bool true
  | 31 => v = .pointer (some ⟨sb, 0, none⟩)
  | 32 => v = .pointer (some ⟨sb, 0, none⟩)
  | 33 => v = .pointer (some ⟨sb, 1, none⟩)
  | 34 => v = .slice (some ⟨g, 0, none⟩) n capA
  | 35 => v = .int .i64 (tk : Int)
  | 36 => v = .int .i64 (k : Int)
  | 37 => v = .slice (some ⟨g, tk * 8, none⟩) (k - tk) (capA - tk)
  | 38 => v = .pointer (some ⟨sb, 0, none⟩)
  | 39 => v = .pointer (some ⟨sb, 0, none⟩)
  | 40 => v = .pointer (some ⟨sb, 1, none⟩)
  | 41 => v = .slice (some ⟨g, 0, none⟩) n capA
  | 42 => v = .int .i64 (k : Int)
  | 43 => v = .int .i64 (j : Int)
  | 44 => v = .slice (some ⟨g, j * 8, none⟩) (n - j) (capA - j)
  | 45 => v = .slice (some ⟨g, j * 8, none⟩) u (capA - j)
  | 46 => v = .bool true
  | 47 => v = .bool true
  | 48 => v = .bool true
  | 49 => v = .pointer (some ⟨sb, 0, none⟩)
  | 50 => v = .int .i64 (k : Int)
  | 51 => v = .bool goV
  | 52 => v = .bool goV
  | _ => True
set_option linter.unusedVariables false in
theorem svC_mono (sb g n capA k tk j u : Nat) (goV : Bool) (d : Nat) (v : Value) (w w' : World) (h : svC sb g n capA k tk j u goV d v w) (_ : Below w.heap.size w w') : svC sb g n capA k tk j u goV d v w' := h
set_option linter.unusedVariables false in
def svD (sb g n capA k tk j u : Nat) (goV : Bool) (d : Nat) (v : Value) (_ : World) : Prop :=
  match d with
  | 23 => v = .pointer (some ⟨sb, 0, none⟩)
  | 24 => v = .pointer (some ⟨sb, 0, none⟩)
  | 25 => v = .pointer (some ⟨sb, 1, none⟩)
  | 26 => v = .slice (some ⟨g, 0, none⟩) n capA
  | 27 => v = .int .i64 (k : Int)
  | 28 => v = .slice (some ⟨g, k * 8, none⟩) (n - k) (capA - k)
  | 29 => v = .bool true
  | 30 => v = .bool true
  | 31 => v = .pointer (some ⟨sb, 0, none⟩)
  | 32 => v = .pointer (some ⟨sb, 0, none⟩)
  | 33 => v = .pointer (some ⟨sb, 1, none⟩)
  | 34 => v = .slice (some ⟨g, 0, none⟩) n capA
  | 35 => v = .int .i64 (tk : Int)
  | 36 => v = .int .i64 (k : Int)
  | 37 => v = .slice (some ⟨g, tk * 8, none⟩) (k - tk) (capA - tk)
  | 38 => v = .pointer (some ⟨sb, 0, none⟩)
  | 39 => v = .pointer (some ⟨sb, 0, none⟩)
  | 40 => v = .pointer (some ⟨sb, 1, none⟩)
  | 41 => v = .slice (some ⟨g, 0, none⟩) n capA
  | 42 => v = .int .i64 (k : Int)
  | 43 => v = .int .i64 (j : Int)
  | 44 => v = .slice (some ⟨g, 0, none⟩) 0 0
  | 45 => v = .slice (some ⟨g, 0, none⟩) 0 0
  | 46 => v = .bool false
  | 47 => v = .bool false
  | 48 => v = .bool false
  | 52 => v = .bool false
  | _ => True
set_option linter.unusedVariables false in
theorem svD_mono (sb g n capA k tk j u : Nat) (goV : Bool) (d : Nat) (v : Value) (w w' : World) (h : svD sb g n capA k tk j u goV d v w) (_ : Below w.heap.size w w') : svD sb g n capA k tk j u goV d v w' := h
set_option linter.unusedVariables false in
def svE (sb g n capA k b n0 : Nat) (a : Acn) (d : Nat) (v : Value) (w : World) : Prop :=
  match d with
  | 64 => v = .pointer (some ⟨sb, 0, none⟩)
  | 65 => v = .pointer (some ⟨sb, 0, none⟩)
  | 66 => v = .pointer (some ⟨sb, 9, none⟩)
  | 67 => v = ptr b
  | 68 => v = .pointer (some ⟨sb, 0, none⟩)
  | 69 => v = .pointer (some ⟨sb, 0, none⟩)
  | 70 => v = .pointer (some ⟨sb, 1, none⟩)
  | 71 => v = .slice (some ⟨g, 0, none⟩) n capA
  | 72 => v = .int .i64 (k : Int)
  | 73 => v = .pointer (some ⟨g, k * 8, none⟩)
  | 74 => v = .agg #[.int .i64 a.kind, .int .i64 a.pl.1, .int .i64 a.pl.2.1, .int .i64 a.pl.2.2, .string a.label, .int .i64 a.vol, .int .i64 a.value, .int .i64 a.time]
  | 75 => ∃ B, v = .slice (some ⟨B, 0, none⟩) 1 1 ∧ n0 ≤ B ∧ Bk B (acl a) w
  | _ => True
set_option linter.unusedVariables false in
theorem svE_mono (sb g n capA k b n0 : Nat) (a : Acn) (d : Nat) (v : Value) (w w' : World) (h : svE sb g n capA k b n0 a d v w) (hb : Below w.heap.size w w') : svE sb g n capA k b n0 a d v w' := by
  unfold svE at h ⊢
  split <;> simp only [] at h <;> first | exact h | (obtain ⟨B, h1, h2, h3⟩ := h; exact ⟨B, h1, h2, h3.later hb⟩)
theorem one_acs {w : World} {B : Nat} {a : Acn} (h : Bk B (acl a) w) : RdR encA w (some ⟨B, 0, none⟩) [a] := by
  refine .inr ⟨B, 0, rfl, h.1, fun k hk j hj => ?_⟩
  have e : k = 0 := by simpa using hk
  subst e
  obtain ⟨u, hu⟩ := acl_at a hj
  show w.cell? ⟨B, 0 + 0 * 8 + j, none⟩ = (acl a)[j]?
  rw [hu, show 0 + 0 * 8 + j = j by omega]
  exact h.c j hu
set_option maxHeartbeats 25600000 in
set_option maxRecDepth 100000 in
theorem save_any (X : Nat → Prop) (wB w : World) (ao : Option Addr) (cap : Nat) (l : List Sit) (sb g capA b m : Nat) (acs : List Acn) (e : Sm) (tE : Sta) (hS : Sv X wB w ao cap l sb g capA b m acs e sta0) (hrun : runO l acs sta0 = some tE) (hal : alikeB tE e.st = true) :
    Calls Tryz.prog 24 #[ptr sb] w fun r w' => r = .returned (.tuple #[]) ∧ ∃ st', Sv X wB w' ao cap l sb g capA b m (saveF l e.st acs 0 0) e st' := by
  have HSV : Hid (Sv X wB w ao cap l sb g capA b m acs e sta0) := hS
  have HRUN : Hid (runO l acs sta0 = some tE ∧ alikeB tE e.st = true) := ⟨hrun, hal⟩
  clear hS hrun hal
  go_enter Tryz.func24, Tryz.ntmps24
  go_wp2
  go_loopw [2, 3] (fun q2 q3 wr => ∃ (A : List Acn) (k tk : Nat) (s1 tA : Sta), q2 = .int .i64 (tk : Int) ∧ q3 = .int .i64 (k : Int) ∧ tk ≤ k ∧ k ≤ A.length ∧ A.length ≤ acs.length ∧ Sv X wB wr ao cap l sb g capA b m A e s1 ∧ runO l (A.take k) sta0 = some s1 ∧ runO l A sta0 = some tA ∧ alikeB tA e.st = true ∧ saveF l e.st acs 0 0 = saveF l e.st A k tk) (fun _ i _ => acs.length - (intOf i).toNat)
  case atStart => exact ⟨acs, 0, 0, sta0, tE, rfl, rfl, Nat.le_refl _, Nat.zero_le _, Nat.le_refl _, HSV.out, rfl, HRUN.out.1, HRUN.out.2, rfl⟩
  case round =>
    obtain ⟨A, k, tk0, s1, tA, rfl, rfl, htk, hkA, hAl, hsv, hrt, hra, hal, hsa⟩ := hrel
    obtain ⟨n, hn⟩ : ∃ n, A.length = n := ⟨_, rfl⟩
    have HS : Hid (Sv X wB wr ao cap l sb g capA b m A e s1) := hsv
    have HN : Hid (A.length = n) := hn
    have HAL00 : Hid (A.length ≤ acs.length) := hAl
    have HRT0 : Hid (runO l (A.take k) sta0 = some s1) := hrt
    have HRA0 : Hid (runO l A sta0 = some tA) := hra
    have HAL1 : Hid (alikeB tA e.st = true) := hal
    have HSA0 : Hid (saveF l e.st acs 0 0 = saveF l e.st A k tk0) := hsa
    have KS : Hid (Bk sb (svc ao cap l g capA n e b) wr) := by have := hsv.bk; rw [hn] at this; exact this
    have hfw : n ≤ 3000 := by rw [← hn]; exact hsv.few
    have hci : capA ≤ 9223372036854775807 := hsv.capA.2
    have hnc : n ≤ capA := by rw [← hn]; exact hsv.capA.1
    have HTK0 : Hid (tk0 ≤ k) := htk
    have hkn0 : k ≤ n := by omega
    clear hsv hrt hra hal hsa hAl hkA htk
    have z0 := (KS.out).c 0 rfl
    have z1 := (KS.out).c 1 rfl
    have z2 := (KS.out).c 2 rfl
    have z3 := (KS.out).c 3 rfl
    have z4 := (KS.out).c 4 rfl
    have z5 := (KS.out).c 5 rfl
    have z6 := (KS.out).c 6 rfl
    have z7 := (KS.out).c 7 rfl
    have z8 := (KS.out).c 8 rfl
    have z9 := (KS.out).c 9 rfl
    by_cases hlt : k < n
    rotate_left
    · have hki : ¬ (k : Int) < (n : Int) := by omega
      have HEND : Hid (saveF l e.st acs 0 0 = A) := by show _ = _; rw [HSA0.out]; exact save_end (by omega)
      clear hn
      go_wp2
      refine bodyPost_end (results_none rfl _ _ _) rfl ?_
      exact ⟨rfl, s1, by rw [HEND.out]; exact HS.out⟩
    have hki : (k : Int) < (n : Int) := by omega
    have hkA : k < A.length := by omega
    have HKA0 : Hid (k < A.length) := hkA
    obtain ⟨kd, hkd⟩ : ∃ kd, kd = (A[k]'hkA).kind := ⟨_, rfl⟩
    have c0 : wr.cell? ⟨g, k * 8, none⟩ = some (.int .i64 kd) := by have := (HS.out.lf.2 k hkA 0 (by decide)).1; rw [hkd]; exact this
    obtain ⟨tk, htk⟩ : ∃ tk, tk = tkn A k tk0 := ⟨_, rfl⟩
    have HTKN : Hid (tk = if kd = 6 then k else tk0) := by show _ = _; rw [htk, tkn_at hkA, hkd]
    have HTKE : Hid (tkn A k tk0 = tk) := htk.symm
    have htk2 : tk ≤ k := by rw [HTKN.out]; split <;> first | exact Nat.le_refl _ | exact HTK0.out
    have HTK2 : Hid (tk ≤ k) := htk2
    clear hkd htk hn hkA
    go_upto_if 21 with fail
    go_cut [2] from 4 to 76 (fun v wx => v = .int .i64 (tk : Int) ∧ wx = wr)
    case first =>
      by_cases h6 : kd = 6
      · have hb6 : (kd == 6) = true := by simp [h6]
        have HT : Hid (tk = k) := by show _ = _; rw [HTKN.out, if_pos h6]
        clear h6
        go_wp2
        go_meet
        exact ⟨by rw [HT.out], rfl⟩
      · have hb6 : (kd == 6) = false := by simp [h6]
        have HT : Hid (tk = tk0) := by show _ = _; rw [HTKN.out, if_neg h6]
        clear h6
        go_wp2
        go_meet
        exact ⟨by rw [HT.out], rfl⟩
    case rest =>
      obtain ⟨hc1, hc2⟩ := hcut
      subst hc1
      have hc3 := hc2.symm
      clear hc2
      subst hc3
      have hck : ¬ capA = k := by omega
      have hctk : ¬ capA = tk := by omega
      have htkn : tk ≤ n := by omega
      have hkc : k ≤ capA := by omega
      obtain ⟨j, hj⟩ : ∃ j, j = k + 2 := ⟨_, rfl⟩
      have hw1 : wrap64 ((k : Int) + 2) = (j : Int) := by rw [IntWalk.wrap64_in _ ⟨by omega, by omega⟩]; omega
      have HJ : Hid (j = k + 2) := hj
      have HIJ : Hid (Value.int .i64 (IntKind.i64.wrap ((k : Int) + 2)) = .int .i64 (j : Int)) := by show _ = _; rw [IntWalk.i64_left, hw1]
      obtain ⟨u, hu⟩ : ∃ u, u = (untilR (A.drop j)).length := ⟨_, rfl⟩
      have HU : Hid (u = (untilR (A.drop j)).length) := hu
      obtain ⟨goV, hgo⟩ : ∃ x, x = goR l e.st A k := ⟨_, rfl⟩
      have HGV : Hid (goV = goR l e.st A k) := hgo
      obtain ⟨ofV, hof⟩ : ∃ x, x = offB l e.st A k tk := ⟨_, rfl⟩
      have HOF : Hid (ofV = offB l e.st A k tk) := hof
      clear hj hu hgo hof z0 z2 z3 z4 z5 z6 z7 z8 z9
      go_upto_region 6 with fail
      go_cut [52] from 4 to 76 (fun v wx => v = .bool ofV ∧ Below wr.heap.size wr wx)
      case first =>
        have HL1 : Hid ((A.drop k).length = n - k) := by show _ = _; rw [List.length_drop, HN.out]
        have HL2 : Hid ((A.drop j).length = n - j) := by show _ = _; rw [List.length_drop, HN.out]
        have HL3 : Hid (((A.take k).drop tk).length = k - tk) := by show _ = _; rw [List.length_drop, List.length_take, HN.out]; omega
        obtain ⟨ch, hch⟩ : ∃ x, x = chgB (A.drop k) := ⟨_, rfl⟩
        obtain ⟨ss, hss⟩ : ∃ x, x = sameSrc ((A.take k).drop tk) (untilR (A.drop j)) := ⟨_, rfl⟩
        have HOB : Hid (ofV = (ch && (ss && goV))) := by show _ = _; rw [HOF.out, hch, hss, HGV.out, HJ.out]; rfl
        have HCH : Hid (∀ W, Below wr.heap.size wr W → Calls Tryz.prog 43 #[.slice (some ⟨g, k * 8, none⟩) (n - k) (capA - k)] W fun r w' => r = .returned (.bool ch) ∧ w' = W) := fun W hb => by
          have h1 := (HS.out.next hb).part k (n - k)
          rw [List.take_of_length_le (by rw [HL1.out]; exact Nat.le_refl _)] at h1
          have h2 := isChange_any (some ⟨g, k * 8, none⟩) (capA - k) (A.drop k) W h1 (by rw [HL1.out]; omega)
          rw [HL1.out, ← hch] at h2
          exact h2
        have HCC : Hid (ch = true → Chg A k) := fun h => chg_iff.1 (by rw [← hch]; exact h)
        have HSJ : Hid (ss = true → j < n) := fun h => by
          by_cases hl : j < n
          · exact hl
          · have hd0 : A.drop j = [] := List.drop_eq_nil_of_le (by have := HN.out; omega)
            rw [hss, hd0] at h
            simp [sameSrc, untilR, src, srcR] at h
        have HUN0 : Hid (∀ W (ad : Addr), Acs W (some ad) (A.drop j) → n ≤ capA → Calls Tryz.prog 45 #[.slice (some ad) (n - j) (capA - j)] W fun r w' => r = .returned (.slice (some ad) u (capA - j)) ∧ Below W.heap.size W w') := fun W ad h1 hc => by
          have h2 := untilDrop_any (some ad) (capA - j) (A.drop j) W h1 (by rw [HL2.out]; omega) (by rw [HL2.out]; omega)
          rw [HL2.out, ← HU.out] at h2
          exact h2
        have HSS0 : Hid (∀ W (ad : Addr), Below wr.heap.size wr W → Acs W (some ad) (untilR (A.drop j)) → Calls Tryz.prog 44 #[.slice (some ⟨g, tk * 8, none⟩) (k - tk) (capA - tk), .slice (some ad) u (capA - j)] W fun r w' => r = .returned (.bool ss) ∧ Below W.heap.size W w') := fun W ad hb h2 => by
          have h1 := (HS.out.next hb).part tk (k - tk)
          have e1 : (A.drop tk).take (k - tk) = (A.take k).drop tk := by rw [List.drop_take]
          rw [e1] at h1
          have hul : (untilR (A.drop j)).length ≤ n := by
            have h3 := congrArg List.length (until_take (A.drop j))
            rw [List.length_take, HL2.out] at h3
            omega
          have h4 := sameSource_any (some ⟨g, tk * 8, none⟩) (some ad) (capA - tk) (capA - j) ((A.take k).drop tk) (untilR (A.drop j)) W h1 h2 (by rw [HL3.out]; omega) (by omega)
          rw [HL3.out, ← HU.out, ← hss] at h4
          exact h4
        have HMG0 : Hid (j < n → ch = true → ∀ W, Below wr.heap.size wr W → Calls Tryz.prog 46 #[ptr sb, .int .i64 (k : Int)] W fun r w' => r = .returned (.bool goV) ∧ Below W.heap.size W w') := fun hjn hc W hb => by
          have h1 := mayGo_any X wB W ao cap l sb g capA b m A e s1 tA k j n (HS.out.next hb) HN.out (HCC.out hc) HJ.out hjn HRT0.out HRA0.out HAL1.out
          rw [← HGV.out] at h1
          exact h1
        have HPU : Hid (∀ W, Below wr.heap.size wr W → Acs W (some ⟨g, j * 8, none⟩) (untilR (A.drop j))) := fun W hb => by
          rw [until_take]
          exact (HS.out.next hb).part j _
        have HPD : Hid (∀ W, Below wr.heap.size wr W → Acs W (some ⟨g, j * 8, none⟩) (A.drop j)) := fun W hb => by
          have h1 := (HS.out.next hb).part j (n - j)
          rw [List.take_of_length_le (by rw [HL2.out]; exact Nat.le_refl _)] at h1
          exact h1
        clear hch hss
        cases ch with
        | false =>
          have HE : Hid (ofV = false) := by show _ = _; rw [HOB.out]; rfl
          clear HUN0 HSS0 HMG0 HOB HCC HSJ
          go_wp2_with fail
          refine region_inv [false, false, false, false, false, false, false, false, false, false, false, false, false, false, false, false, false, false, false, false, false, false, false, true, true, true, true, true, true, true, true, true, true, true, true, true, true, true, true, true, true, true, true, true, true, true, true, true, true, true, true, true, true, false, false, false, false, false, false, false, false, false, false, false, false, false, false, false, false, false, false, false, false, false, false, false, false]
            [(23, [], none), (24, [23], none), (25, [24], none), (26, [25], none), (27, [], none), (28, [26, 27], none), (29, [28], none), (30, [29], none), (31, [30], some (30, true)), (32, [30, 31], some (30, true)), (33, [30, 32], some (30, true)), (34, [30, 33], some (30, true)), (35, [30], some (30, true)), (36, [30], some (30, true)), (37, [30, 34, 35, 36], some (30, true)), (38, [30], some (30, true)), (39, [30, 38], some (30, true)), (40, [30, 39], some (30, true)), (41, [30, 40], some (30, true)), (42, [30], some (30, true)), (43, [30, 42], some (30, true)), (44, [30, 41, 43], some (30, true)), (45, [30, 44], some (30, true)), (46, [30, 37, 45], some (30, true)), (47, [30, 46], none), (48, [47], none), (49, [48], some (48, true)), (50, [48], some (48, true)), (51, [48, 49, 50], some (48, true)), (52, [48, 51], none)]
            (svA sb g n capA k tk j u goV) (by kernel_rfl) (by kernel_rfl) (svA_mono sb g n capA k tk j u goV) ?_ ?_
          · refine ⟨?_, ?_, ?_, ?_, ?_, ?_, ?_, ?_, ?_, ?_, ?_, ?_, ?_, ?_, ?_, ?_, ?_, ?_, ?_, ?_, ?_, ?_, ?_, ?_, ?_, ?_, ?_, ?_, ?_, ?_, trivial⟩
            · intro f w1 hb _ K hK
              simp only [over, overL, Nat.reduceAdd]
              go_simp
              exact hK _ _ ⟨_, rfl, by simp only [over, overL, Nat.reduceAdd]; rfl, Below.refl _ _⟩
            · intro f w1 hb ⟨h23, _⟩ K hK
              replace h23 : f 23 = _ := h23
              simp only [over, overL, Nat.reduceAdd, h23]
              go_simp
              exact hK _ _ ⟨_, rfl, by simp only [over, overL, Nat.reduceAdd, h23]; rfl, Below.refl _ _⟩
            · intro f w1 hb ⟨h24, _⟩ K hK
              replace h24 : f 24 = _ := h24
              simp only [over, overL, Nat.reduceAdd, h24]
              go_simp
              exact hK _ _ ⟨_, rfl, by simp only [over, overL, Nat.reduceAdd, h24]; rfl, Below.refl _ _⟩
            · intro f w1 hb ⟨h25, _⟩ K hK
              replace h25 : f 25 = _ := h25
              have q1 := (KS.out.later hb).c 1 rfl
              simp only [over, overL, Nat.reduceAdd, h25]
              go_simp
              exact hK _ _ ⟨_, rfl, by simp only [over, overL, Nat.reduceAdd, h25]; rfl, Below.refl _ _⟩
            · intro f w1 hb _ K hK
              simp only [over, overL, Nat.reduceAdd]
              go_simp
              exact hK _ _ ⟨_, rfl, by simp only [over, overL, Nat.reduceAdd]; rfl, Below.refl _ _⟩
            · intro f w1 hb ⟨h26, h27, _⟩ K hK
              replace h26 : f 26 = _ := h26
              replace h27 : f 27 = _ := h27
              simp only [over, overL, Nat.reduceAdd, h26, h27]
              go_simp
              exact hK _ _ ⟨_, rfl, by simp only [over, overL, Nat.reduceAdd, h26, h27]; rfl, Below.refl _ _⟩
            · intro f w1 hb ⟨h28, _⟩ K hK
              replace h28 : f 28 = _ := h28
              simp only [over, overL, Nat.reduceAdd, h28]
              go_simp
              refine (HCH.out w1 hb).mono ?_
              rintro e w2 ⟨rfl, rfl⟩
              exact hK _ _ ⟨_, rfl, by simp only [over, overL, Nat.reduceAdd, h28]; rfl, Below.refl _ _⟩
            · intro f w1 hb ⟨h29, _⟩ K hK
              replace h29 : f 29 = _ := h29
              simp only [over, overL, Nat.reduceAdd, h29]
              go_simp
              exact hK _ _ ⟨_, rfl, by simp only [over, overL, Nat.reduceAdd, h29]; rfl, Below.refl _ _⟩
            · intro f w1 hb ⟨h30, _⟩
              replace h30 : f 30 = _ := h30
              exact ⟨fun hg => absurd (h30.symm.trans hg) (by simp), fun _ => trivial⟩
            · intro f w1 hb ⟨h30, h31, _⟩
              replace h30 : f 30 = _ := h30
              exact ⟨fun hg => absurd (h30.symm.trans hg) (by simp), fun _ => trivial⟩
            · intro f w1 hb ⟨h30, h32, _⟩
              replace h30 : f 30 = _ := h30
              exact ⟨fun hg => absurd (h30.symm.trans hg) (by simp), fun _ => trivial⟩
            · intro f w1 hb ⟨h30, h33, _⟩
              replace h30 : f 30 = _ := h30
              exact ⟨fun hg => absurd (h30.symm.trans hg) (by simp), fun _ => trivial⟩
            · intro f w1 hb ⟨h30, _⟩
              replace h30 : f 30 = _ := h30
              exact ⟨fun hg => absurd (h30.symm.trans hg) (by simp), fun _ => trivial⟩
            · intro f w1 hb ⟨h30, _⟩
              replace h30 : f 30 = _ := h30
              exact ⟨fun hg => absurd (h30.symm.trans hg) (by simp), fun _ => trivial⟩
            · intro f w1 hb ⟨h30, h34, h35, h36, _⟩
              replace h30 : f 30 = _ := h30
              exact ⟨fun hg => absurd (h30.symm.trans hg) (by simp), fun _ => trivial⟩
            · intro f w1 hb ⟨h30, _⟩
              replace h30 : f 30 = _ := h30
              exact ⟨fun hg => absurd (h30.symm.trans hg) (by simp), fun _ => trivial⟩
            · intro f w1 hb ⟨h30, h38, _⟩
              replace h30 : f 30 = _ := h30
              exact ⟨fun hg => absurd (h30.symm.trans hg) (by simp), fun _ => trivial⟩
            · intro f w1 hb ⟨h30, h39, _⟩
              replace h30 : f 30 = _ := h30
              exact ⟨fun hg => absurd (h30.symm.trans hg) (by simp), fun _ => trivial⟩
            · intro f w1 hb ⟨h30, h40, _⟩
              replace h30 : f 30 = _ := h30
              exact ⟨fun hg => absurd (h30.symm.trans hg) (by simp), fun _ => trivial⟩
            · intro f w1 hb ⟨h30, _⟩
              replace h30 : f 30 = _ := h30
              exact ⟨fun hg => absurd (h30.symm.trans hg) (by simp), fun _ => trivial⟩
            · intro f w1 hb ⟨h30, h42, _⟩
              replace h30 : f 30 = _ := h30
              exact ⟨fun hg => absurd (h30.symm.trans hg) (by simp), fun _ => trivial⟩
            · intro f w1 hb ⟨h30, h41, h43, _⟩
              replace h30 : f 30 = _ := h30
              exact ⟨fun hg => absurd (h30.symm.trans hg) (by simp), fun _ => trivial⟩
            · intro f w1 hb ⟨h30, h44, _⟩
              replace h30 : f 30 = _ := h30
              exact ⟨fun hg => absurd (h30.symm.trans hg) (by simp), fun _ => trivial⟩
            · intro f w1 hb ⟨h30, h37, h45, _⟩
              replace h30 : f 30 = _ := h30
              exact ⟨fun hg => absurd (h30.symm.trans hg) (by simp), fun _ => trivial⟩
            · intro f w1 hb ⟨h30, h46, _⟩ K hK
              replace h30 : f 30 = _ := h30
              simp only [over, overL, Nat.reduceAdd, h30]
              go_simp
              exact hK _ _ ⟨_, rfl, by simp only [over, overL, Nat.reduceAdd, h30]; rfl, Below.refl _ _⟩
            · intro f w1 hb ⟨h47, _⟩ K hK
              replace h47 : f 47 = _ := h47
              simp only [over, overL, Nat.reduceAdd, h47]
              go_simp
              exact hK _ _ ⟨_, rfl, by simp only [over, overL, Nat.reduceAdd, h47]; rfl, Below.refl _ _⟩
            · intro f w1 hb ⟨h48, _⟩
              replace h48 : f 48 = _ := h48
              exact ⟨fun hg => absurd (h48.symm.trans hg) (by simp), fun _ => trivial⟩
            · intro f w1 hb ⟨h48, _⟩
              replace h48 : f 48 = _ := h48
              exact ⟨fun hg => absurd (h48.symm.trans hg) (by simp), fun _ => trivial⟩
            · intro f w1 hb ⟨h48, h49, h50, _⟩
              replace h48 : f 48 = _ := h48
              exact ⟨fun hg => absurd (h48.symm.trans hg) (by simp), fun _ => trivial⟩
            · intro f w1 hb ⟨h48, h51, _⟩ K hK
              replace h48 : f 48 = _ := h48
              simp only [over, overL, Nat.reduceAdd, h48]
              go_simp
              exact hK _ _ ⟨_, rfl, by simp only [over, overL, Nat.reduceAdd, h48]; rfl, Below.refl _ _⟩
          intro f w8 hb8 hv
          have h52 : f 52 = .bool false := hv.2.2.2.2.2.2.2.2.2.2.2.2.2.2.2.2.2.2.2.2.2.2.2.2.2.2.2.2.2.1
          have HB8 : Hid (Below wr.heap.size wr w8) := hb8
          clear hv hb8
          simp only [over, overL, Nat.reduceAdd, h52]
          clear h52
          go_wp2
          go_meet
          exact ⟨by rw [HE.out], HB8.out⟩
        | true =>
          have hj2 : j ≤ n := by have := (HCC.out rfl).lt; have := HN.out; have := HJ.out; omega
          have hjc2 : j ≤ capA := by omega
          cases ss with
          | false =>
           have HE : Hid (ofV = false) := by show _ = _; rw [HOB.out]; rfl
           by_cases hjc : capA = j
           · have hd0 : A.drop j = [] := List.drop_eq_nil_of_le (by have := HN.out; omega)
             have hjc' := hjc.symm
             clear hjc
             subst hjc'
             have hnj : n - j = 0 := by omega
             have hu0 : u = 0 := by rw [HU.out, hd0]; rfl
             have HUN : Hid (∀ W, Below wr.heap.size wr W → Calls Tryz.prog 45 #[.slice (some ⟨g, 0, none⟩) 0 0] W fun r w' => r = .returned (.slice (some ⟨g, 0, none⟩) 0 0) ∧ Below W.heap.size W w') := fun W hb => by
               have h := HUN0.out W ⟨g, 0, none⟩ (by rw [hd0]; exact ⟨.inl rfl, fun _ h => by cases h⟩) hnc
               rw [Nat.sub_self, hnj, hu0] at h
               exact h
             have HSS : Hid (∀ W, Below wr.heap.size wr W → Calls Tryz.prog 44 #[.slice (some ⟨g, tk * 8, none⟩) (k - tk) (j - tk), .slice (some ⟨g, 0, none⟩) 0 0] W fun r w' => r = .returned (.bool false) ∧ Below W.heap.size W w') := fun W hb => by
               have h := HSS0.out W ⟨g, 0, none⟩ hb (by rw [hd0]; exact ⟨.inl rfl, fun _ h => by cases h⟩)
               rw [Nat.sub_self, hu0] at h
               exact h
             clear hnj hu0
             clear HUN0 HSS0 HMG0 HOB HCC HSJ hd0
             go_wp2_with fail
             refine region_inv [false, false, false, false, false, false, false, false, false, false, false, false, false, false, false, false, false, false, false, false, false, false, false, true, true, true, true, true, true, true, true, true, true, true, true, true, true, true, true, true, true, true, true, true, true, true, true, true, true, true, true, true, true, false, false, false, false, false, false, false, false, false, false, false, false, false, false, false, false, false, false, false, false, false, false, false, false]
               [(23, [], none), (24, [23], none), (25, [24], none), (26, [25], none), (27, [], none), (28, [26, 27], none), (29, [28], none), (30, [29], none), (31, [30], some (30, true)), (32, [30, 31], some (30, true)), (33, [30, 32], some (30, true)), (34, [30, 33], some (30, true)), (35, [30], some (30, true)), (36, [30], some (30, true)), (37, [30, 34, 35, 36], some (30, true)), (38, [30], some (30, true)), (39, [30, 38], some (30, true)), (40, [30, 39], some (30, true)), (41, [30, 40], some (30, true)), (42, [30], some (30, true)), (43, [30, 42], some (30, true)), (44, [30, 41, 43], some (30, true)), (45, [30, 44], some (30, true)), (46, [30, 37, 45], some (30, true)), (47, [30, 46], none), (48, [47], none), (49, [48], some (48, true)), (50, [48], some (48, true)), (51, [48, 49, 50], some (48, true)), (52, [48, 51], none)]
               (svD sb g n j k tk j u goV) (by kernel_rfl) (by kernel_rfl) (svD_mono sb g n j k tk j u goV) ?_ ?_
             · refine ⟨?_, ?_, ?_, ?_, ?_, ?_, ?_, ?_, ?_, ?_, ?_, ?_, ?_, ?_, ?_, ?_, ?_, ?_, ?_, ?_, ?_, ?_, ?_, ?_, ?_, ?_, ?_, ?_, ?_, ?_, trivial⟩
               · intro f w1 hb _ K hK
                 simp only [over, overL, Nat.reduceAdd]
                 go_simp
                 exact hK _ _ ⟨_, rfl, by simp only [over, overL, Nat.reduceAdd]; rfl, Below.refl _ _⟩
               · intro f w1 hb ⟨h23, _⟩ K hK
                 replace h23 : f 23 = _ := h23
                 simp only [over, overL, Nat.reduceAdd, h23]
                 go_simp
                 exact hK _ _ ⟨_, rfl, by simp only [over, overL, Nat.reduceAdd, h23]; rfl, Below.refl _ _⟩
               · intro f w1 hb ⟨h24, _⟩ K hK
                 replace h24 : f 24 = _ := h24
                 simp only [over, overL, Nat.reduceAdd, h24]
                 go_simp
                 exact hK _ _ ⟨_, rfl, by simp only [over, overL, Nat.reduceAdd, h24]; rfl, Below.refl _ _⟩
               · intro f w1 hb ⟨h25, _⟩ K hK
                 replace h25 : f 25 = _ := h25
                 have q1 := (KS.out.later hb).c 1 rfl
                 simp only [over, overL, Nat.reduceAdd, h25]
                 go_simp
                 exact hK _ _ ⟨_, rfl, by simp only [over, overL, Nat.reduceAdd, h25]; rfl, Below.refl _ _⟩
               · intro f w1 hb _ K hK
                 simp only [over, overL, Nat.reduceAdd]
                 go_simp
                 exact hK _ _ ⟨_, rfl, by simp only [over, overL, Nat.reduceAdd]; rfl, Below.refl _ _⟩
               · intro f w1 hb ⟨h26, h27, _⟩ K hK
                 replace h26 : f 26 = _ := h26
                 replace h27 : f 27 = _ := h27
                 simp only [over, overL, Nat.reduceAdd, h26, h27]
                 go_simp
                 exact hK _ _ ⟨_, rfl, by simp only [over, overL, Nat.reduceAdd, h26, h27]; rfl, Below.refl _ _⟩
               · intro f w1 hb ⟨h28, _⟩ K hK
                 replace h28 : f 28 = _ := h28
                 simp only [over, overL, Nat.reduceAdd, h28]
                 go_simp
                 refine (HCH.out w1 hb).mono ?_
                 rintro e w2 ⟨rfl, rfl⟩
                 exact hK _ _ ⟨_, rfl, by simp only [over, overL, Nat.reduceAdd, h28]; rfl, Below.refl _ _⟩
               · intro f w1 hb ⟨h29, _⟩ K hK
                 replace h29 : f 29 = _ := h29
                 simp only [over, overL, Nat.reduceAdd, h29]
                 go_simp
                 exact hK _ _ ⟨_, rfl, by simp only [over, overL, Nat.reduceAdd, h29]; rfl, Below.refl _ _⟩
               · intro f w1 hb ⟨h30, _⟩
                 replace h30 : f 30 = _ := h30
                 refine ⟨fun _ => ?_, fun hg => absurd h30 hg⟩
                 intro K hK
                 simp only [over, overL, Nat.reduceAdd, h30]
                 go_simp
                 exact hK _ _ ⟨_, rfl, by simp only [over, overL, Nat.reduceAdd, h30]; rfl, Below.refl _ _⟩
               · intro f w1 hb ⟨h30, h31, _⟩
                 replace h30 : f 30 = _ := h30
                 replace h31 : f 31 = _ := h31
                 refine ⟨fun _ => ?_, fun hg => absurd h30 hg⟩
                 intro K hK
                 simp only [over, overL, Nat.reduceAdd, h30, h31]
                 go_simp
                 exact hK _ _ ⟨_, rfl, by simp only [over, overL, Nat.reduceAdd, h30, h31]; rfl, Below.refl _ _⟩
               · intro f w1 hb ⟨h30, h32, _⟩
                 replace h30 : f 30 = _ := h30
                 replace h32 : f 32 = _ := h32
                 refine ⟨fun _ => ?_, fun hg => absurd h30 hg⟩
                 intro K hK
                 simp only [over, overL, Nat.reduceAdd, h30, h32]
                 go_simp
                 exact hK _ _ ⟨_, rfl, by simp only [over, overL, Nat.reduceAdd, h30, h32]; rfl, Below.refl _ _⟩
               · intro f w1 hb ⟨h30, h33, _⟩
                 replace h30 : f 30 = _ := h30
                 replace h33 : f 33 = _ := h33
                 refine ⟨fun _ => ?_, fun hg => absurd h30 hg⟩
                 intro K hK
                 have q1 := (KS.out.later hb).c 1 rfl
                 simp only [over, overL, Nat.reduceAdd, h30, h33]
                 go_simp
                 exact hK _ _ ⟨_, rfl, by simp only [over, overL, Nat.reduceAdd, h30, h33]; rfl, Below.refl _ _⟩
               · intro f w1 hb ⟨h30, _⟩
                 replace h30 : f 30 = _ := h30
                 refine ⟨fun _ => ?_, fun hg => absurd h30 hg⟩
                 intro K hK
                 simp only [over, overL, Nat.reduceAdd, h30]
                 go_simp
                 exact hK _ _ ⟨_, rfl, by simp only [over, overL, Nat.reduceAdd, h30]; rfl, Below.refl _ _⟩
               · intro f w1 hb ⟨h30, _⟩
                 replace h30 : f 30 = _ := h30
                 refine ⟨fun _ => ?_, fun hg => absurd h30 hg⟩
                 intro K hK
                 simp only [over, overL, Nat.reduceAdd, h30]
                 go_simp
                 exact hK _ _ ⟨_, rfl, by simp only [over, overL, Nat.reduceAdd, h30]; rfl, Below.refl _ _⟩
               · intro f w1 hb ⟨h30, h34, h35, h36, _⟩
                 replace h30 : f 30 = _ := h30
                 replace h34 : f 34 = _ := h34
                 replace h35 : f 35 = _ := h35
                 replace h36 : f 36 = _ := h36
                 refine ⟨fun _ => ?_, fun hg => absurd h30 hg⟩
                 intro K hK
                 simp only [over, overL, Nat.reduceAdd, h30, h34, h35, h36]
                 go_simp
                 exact hK _ _ ⟨_, rfl, by simp only [over, overL, Nat.reduceAdd, h30, h34, h35, h36]; rfl, Below.refl _ _⟩
               · intro f w1 hb ⟨h30, _⟩
                 replace h30 : f 30 = _ := h30
                 refine ⟨fun _ => ?_, fun hg => absurd h30 hg⟩
                 intro K hK
                 simp only [over, overL, Nat.reduceAdd, h30]
                 go_simp
                 exact hK _ _ ⟨_, rfl, by simp only [over, overL, Nat.reduceAdd, h30]; rfl, Below.refl _ _⟩
               · intro f w1 hb ⟨h30, h38, _⟩
                 replace h30 : f 30 = _ := h30
                 replace h38 : f 38 = _ := h38
                 refine ⟨fun _ => ?_, fun hg => absurd h30 hg⟩
                 intro K hK
                 simp only [over, overL, Nat.reduceAdd, h30, h38]
                 go_simp
                 exact hK _ _ ⟨_, rfl, by simp only [over, overL, Nat.reduceAdd, h30, h38]; rfl, Below.refl _ _⟩
               · intro f w1 hb ⟨h30, h39, _⟩
                 replace h30 : f 30 = _ := h30
                 replace h39 : f 39 = _ := h39
                 refine ⟨fun _ => ?_, fun hg => absurd h30 hg⟩
                 intro K hK
                 simp only [over, overL, Nat.reduceAdd, h30, h39]
                 go_simp
                 exact hK _ _ ⟨_, rfl, by simp only [over, overL, Nat.reduceAdd, h30, h39]; rfl, Below.refl _ _⟩
               · intro f w1 hb ⟨h30, h40, _⟩
                 replace h30 : f 30 = _ := h30
                 replace h40 : f 40 = _ := h40
                 refine ⟨fun _ => ?_, fun hg => absurd h30 hg⟩
                 intro K hK
                 have q1 := (KS.out.later hb).c 1 rfl
                 simp only [over, overL, Nat.reduceAdd, h30, h40]
                 go_simp
                 exact hK _ _ ⟨_, rfl, by simp only [over, overL, Nat.reduceAdd, h30, h40]; rfl, Below.refl _ _⟩
               · intro f w1 hb ⟨h30, _⟩
                 replace h30 : f 30 = _ := h30
                 refine ⟨fun _ => ?_, fun hg => absurd h30 hg⟩
                 intro K hK
                 simp only [over, overL, Nat.reduceAdd, h30]
                 go_simp
                 exact hK _ _ ⟨_, rfl, by simp only [over, overL, Nat.reduceAdd, h30]; rfl, Below.refl _ _⟩
               · intro f w1 hb ⟨h30, h42, _⟩
                 replace h30 : f 30 = _ := h30
                 replace h42 : f 42 = _ := h42
                 refine ⟨fun _ => ?_, fun hg => absurd h30 hg⟩
                 intro K hK
                 simp only [over, overL, Nat.reduceAdd, h30, h42]
                 go_simp
                 exact hK _ _ ⟨_, HIJ.out, by simp only [over, overL, Nat.reduceAdd, h30, h42]; rfl, Below.refl _ _⟩
               · intro f w1 hb ⟨h30, h41, h43, _⟩
                 replace h30 : f 30 = _ := h30
                 replace h41 : f 41 = _ := h41
                 replace h43 : f 43 = _ := h43
                 refine ⟨fun _ => ?_, fun hg => absurd h30 hg⟩
                 intro K hK
                 simp only [over, overL, Nat.reduceAdd, h30, h41, h43]
                 go_simp
                 exact hK _ _ ⟨_, rfl, by simp only [over, overL, Nat.reduceAdd, h30, h41, h43]; rfl, Below.refl _ _⟩
               · intro f w1 hb ⟨h30, h44, _⟩
                 replace h30 : f 30 = _ := h30
                 replace h44 : f 44 = _ := h44
                 refine ⟨fun _ => ?_, fun hg => absurd h30 hg⟩
                 intro K hK
                 simp only [over, overL, Nat.reduceAdd, h30, h44]
                 go_simp
                 refine (HUN.out w1 hb).mono ?_
                 rintro e w2 ⟨rfl, hb2⟩
                 exact hK _ _ ⟨_, rfl, by simp only [over, overL, Nat.reduceAdd, h30, h44]; rfl, hb2⟩
               · intro f w1 hb ⟨h30, h37, h45, _⟩
                 replace h30 : f 30 = _ := h30
                 replace h37 : f 37 = _ := h37
                 replace h45 : f 45 = _ := h45
                 refine ⟨fun _ => ?_, fun hg => absurd h30 hg⟩
                 intro K hK
                 simp only [over, overL, Nat.reduceAdd, h30, h37, h45]
                 go_simp
                 refine (HSS.out w1 hb).mono ?_
                 rintro e w2 ⟨rfl, hb2⟩
                 exact hK _ _ ⟨_, rfl, by simp only [over, overL, Nat.reduceAdd, h30, h37, h45]; rfl, hb2⟩
               · intro f w1 hb ⟨h30, h46, _⟩ K hK
                 replace h30 : f 30 = _ := h30
                 replace h46 : f 46 = _ := h46
                 simp only [over, overL, Nat.reduceAdd, h30, h46]
                 go_simp
                 exact hK _ _ ⟨_, rfl, by simp only [over, overL, Nat.reduceAdd, h30, h46]; rfl, Below.refl _ _⟩
               · intro f w1 hb ⟨h47, _⟩ K hK
                 replace h47 : f 47 = _ := h47
                 simp only [over, overL, Nat.reduceAdd, h47]
                 go_simp
                 exact hK _ _ ⟨_, rfl, by simp only [over, overL, Nat.reduceAdd, h47]; rfl, Below.refl _ _⟩
               · intro f w1 hb ⟨h48, _⟩
                 replace h48 : f 48 = _ := h48
                 exact ⟨fun hg => absurd (h48.symm.trans hg) (by simp), fun _ => trivial⟩
               · intro f w1 hb ⟨h48, _⟩
                 replace h48 : f 48 = _ := h48
                 exact ⟨fun hg => absurd (h48.symm.trans hg) (by simp), fun _ => trivial⟩
               · intro f w1 hb ⟨h48, h49, h50, _⟩
                 replace h48 : f 48 = _ := h48
                 exact ⟨fun hg => absurd (h48.symm.trans hg) (by simp), fun _ => trivial⟩
               · intro f w1 hb ⟨h48, h51, _⟩ K hK
                 replace h48 : f 48 = _ := h48
                 simp only [over, overL, Nat.reduceAdd, h48]
                 go_simp
                 exact hK _ _ ⟨_, rfl, by simp only [over, overL, Nat.reduceAdd, h48]; rfl, Below.refl _ _⟩
             intro f w8 hb8 hv
             have h52 : f 52 = .bool false := hv.2.2.2.2.2.2.2.2.2.2.2.2.2.2.2.2.2.2.2.2.2.2.2.2.2.2.2.2.2.1
             have HB8 : Hid (Below wr.heap.size wr w8) := hb8
             clear hv hb8
             simp only [over, overL, Nat.reduceAdd, h52]
             clear h52
             go_wp2
             go_meet
             exact ⟨by rw [HE.out], HB8.out⟩
           · have HUN : Hid (∀ W, Below wr.heap.size wr W → Calls Tryz.prog 45 #[.slice (some ⟨g, j * 8, none⟩) (n - j) (capA - j)] W fun r w' => r = .returned (.slice (some ⟨g, j * 8, none⟩) u (capA - j)) ∧ Below W.heap.size W w') := fun W hb => HUN0.out W _ (HPD.out W hb) hnc
             have HSS : Hid (∀ W, Below wr.heap.size wr W → Calls Tryz.prog 44 #[.slice (some ⟨g, tk * 8, none⟩) (k - tk) (capA - tk), .slice (some ⟨g, j * 8, none⟩) u (capA - j)] W fun r w' => r = .returned (.bool false) ∧ Below W.heap.size W w') := fun W hb => HSS0.out W _ hb (HPU.out W hb)
             clear HUN0 HSS0 HMG0 HOB HCC HSJ
             go_wp2_with fail
             refine region_inv [false, false, false, false, false, false, false, false, false, false, false, false, false, false, false, false, false, false, false, false, false, false, false, true, true, true, true, true, true, true, true, true, true, true, true, true, true, true, true, true, true, true, true, true, true, true, true, true, true, true, true, true, true, false, false, false, false, false, false, false, false, false, false, false, false, false, false, false, false, false, false, false, false, false, false, false, false]
               [(23, [], none), (24, [23], none), (25, [24], none), (26, [25], none), (27, [], none), (28, [26, 27], none), (29, [28], none), (30, [29], none), (31, [30], some (30, true)), (32, [30, 31], some (30, true)), (33, [30, 32], some (30, true)), (34, [30, 33], some (30, true)), (35, [30], some (30, true)), (36, [30], some (30, true)), (37, [30, 34, 35, 36], some (30, true)), (38, [30], some (30, true)), (39, [30, 38], some (30, true)), (40, [30, 39], some (30, true)), (41, [30, 40], some (30, true)), (42, [30], some (30, true)), (43, [30, 42], some (30, true)), (44, [30, 41, 43], some (30, true)), (45, [30, 44], some (30, true)), (46, [30, 37, 45], some (30, true)), (47, [30, 46], none), (48, [47], none), (49, [48], some (48, true)), (50, [48], some (48, true)), (51, [48, 49, 50], some (48, true)), (52, [48, 51], none)]
               (svB sb g n capA k tk j u goV) (by kernel_rfl) (by kernel_rfl) (svB_mono sb g n capA k tk j u goV) ?_ ?_
             · refine ⟨?_, ?_, ?_, ?_, ?_, ?_, ?_, ?_, ?_, ?_, ?_, ?_, ?_, ?_, ?_, ?_, ?_, ?_, ?_, ?_, ?_, ?_, ?_, ?_, ?_, ?_, ?_, ?_, ?_, ?_, trivial⟩
               · intro f w1 hb _ K hK
                 simp only [over, overL, Nat.reduceAdd]
                 go_simp
                 exact hK _ _ ⟨_, rfl, by simp only [over, overL, Nat.reduceAdd]; rfl, Below.refl _ _⟩
               · intro f w1 hb ⟨h23, _⟩ K hK
                 replace h23 : f 23 = _ := h23
                 simp only [over, overL, Nat.reduceAdd, h23]
                 go_simp
                 exact hK _ _ ⟨_, rfl, by simp only [over, overL, Nat.reduceAdd, h23]; rfl, Below.refl _ _⟩
               · intro f w1 hb ⟨h24, _⟩ K hK
                 replace h24 : f 24 = _ := h24
                 simp only [over, overL, Nat.reduceAdd, h24]
                 go_simp
                 exact hK _ _ ⟨_, rfl, by simp only [over, overL, Nat.reduceAdd, h24]; rfl, Below.refl _ _⟩
               · intro f w1 hb ⟨h25, _⟩ K hK
                 replace h25 : f 25 = _ := h25
                 have q1 := (KS.out.later hb).c 1 rfl
                 simp only [over, overL, Nat.reduceAdd, h25]
                 go_simp
                 exact hK _ _ ⟨_, rfl, by simp only [over, overL, Nat.reduceAdd, h25]; rfl, Below.refl _ _⟩
               · intro f w1 hb _ K hK
                 simp only [over, overL, Nat.reduceAdd]
                 go_simp
                 exact hK _ _ ⟨_, rfl, by simp only [over, overL, Nat.reduceAdd]; rfl, Below.refl _ _⟩
               · intro f w1 hb ⟨h26, h27, _⟩ K hK
                 replace h26 : f 26 = _ := h26
                 replace h27 : f 27 = _ := h27
                 simp only [over, overL, Nat.reduceAdd, h26, h27]
                 go_simp
                 exact hK _ _ ⟨_, rfl, by simp only [over, overL, Nat.reduceAdd, h26, h27]; rfl, Below.refl _ _⟩
               · intro f w1 hb ⟨h28, _⟩ K hK
                 replace h28 : f 28 = _ := h28
                 simp only [over, overL, Nat.reduceAdd, h28]
                 go_simp
                 refine (HCH.out w1 hb).mono ?_
                 rintro e w2 ⟨rfl, rfl⟩
                 exact hK _ _ ⟨_, rfl, by simp only [over, overL, Nat.reduceAdd, h28]; rfl, Below.refl _ _⟩
               · intro f w1 hb ⟨h29, _⟩ K hK
                 replace h29 : f 29 = _ := h29
                 simp only [over, overL, Nat.reduceAdd, h29]
                 go_simp
                 exact hK _ _ ⟨_, rfl, by simp only [over, overL, Nat.reduceAdd, h29]; rfl, Below.refl _ _⟩
               · intro f w1 hb ⟨h30, _⟩
                 replace h30 : f 30 = _ := h30
                 refine ⟨fun _ => ?_, fun hg => absurd h30 hg⟩
                 intro K hK
                 simp only [over, overL, Nat.reduceAdd, h30]
                 go_simp
                 exact hK _ _ ⟨_, rfl, by simp only [over, overL, Nat.reduceAdd, h30]; rfl, Below.refl _ _⟩
               · intro f w1 hb ⟨h30, h31, _⟩
                 replace h30 : f 30 = _ := h30
                 replace h31 : f 31 = _ := h31
                 refine ⟨fun _ => ?_, fun hg => absurd h30 hg⟩
                 intro K hK
                 simp only [over, overL, Nat.reduceAdd, h30, h31]
                 go_simp
                 exact hK _ _ ⟨_, rfl, by simp only [over, overL, Nat.reduceAdd, h30, h31]; rfl, Below.refl _ _⟩
               · intro f w1 hb ⟨h30, h32, _⟩
                 replace h30 : f 30 = _ := h30
                 replace h32 : f 32 = _ := h32
                 refine ⟨fun _ => ?_, fun hg => absurd h30 hg⟩
                 intro K hK
                 simp only [over, overL, Nat.reduceAdd, h30, h32]
                 go_simp
                 exact hK _ _ ⟨_, rfl, by simp only [over, overL, Nat.reduceAdd, h30, h32]; rfl, Below.refl _ _⟩
               · intro f w1 hb ⟨h30, h33, _⟩
                 replace h30 : f 30 = _ := h30
                 replace h33 : f 33 = _ := h33
                 refine ⟨fun _ => ?_, fun hg => absurd h30 hg⟩
                 intro K hK
                 have q1 := (KS.out.later hb).c 1 rfl
                 simp only [over, overL, Nat.reduceAdd, h30, h33]
                 go_simp
                 exact hK _ _ ⟨_, rfl, by simp only [over, overL, Nat.reduceAdd, h30, h33]; rfl, Below.refl _ _⟩
               · intro f w1 hb ⟨h30, _⟩
                 replace h30 : f 30 = _ := h30
                 refine ⟨fun _ => ?_, fun hg => absurd h30 hg⟩
                 intro K hK
                 simp only [over, overL, Nat.reduceAdd, h30]
                 go_simp
                 exact hK _ _ ⟨_, rfl, by simp only [over, overL, Nat.reduceAdd, h30]; rfl, Below.refl _ _⟩
               · intro f w1 hb ⟨h30, _⟩
                 replace h30 : f 30 = _ := h30
                 refine ⟨fun _ => ?_, fun hg => absurd h30 hg⟩
                 intro K hK
                 simp only [over, overL, Nat.reduceAdd, h30]
                 go_simp
                 exact hK _ _ ⟨_, rfl, by simp only [over, overL, Nat.reduceAdd, h30]; rfl, Below.refl _ _⟩
               · intro f w1 hb ⟨h30, h34, h35, h36, _⟩
                 replace h30 : f 30 = _ := h30
                 replace h34 : f 34 = _ := h34
                 replace h35 : f 35 = _ := h35
                 replace h36 : f 36 = _ := h36
                 refine ⟨fun _ => ?_, fun hg => absurd h30 hg⟩
                 intro K hK
                 simp only [over, overL, Nat.reduceAdd, h30, h34, h35, h36]
                 go_simp
                 exact hK _ _ ⟨_, rfl, by simp only [over, overL, Nat.reduceAdd, h30, h34, h35, h36]; rfl, Below.refl _ _⟩
               · intro f w1 hb ⟨h30, _⟩
                 replace h30 : f 30 = _ := h30
                 refine ⟨fun _ => ?_, fun hg => absurd h30 hg⟩
                 intro K hK
                 simp only [over, overL, Nat.reduceAdd, h30]
                 go_simp
                 exact hK _ _ ⟨_, rfl, by simp only [over, overL, Nat.reduceAdd, h30]; rfl, Below.refl _ _⟩
               · intro f w1 hb ⟨h30, h38, _⟩
                 replace h30 : f 30 = _ := h30
                 replace h38 : f 38 = _ := h38
                 refine ⟨fun _ => ?_, fun hg => absurd h30 hg⟩
                 intro K hK
                 simp only [over, overL, Nat.reduceAdd, h30, h38]
                 go_simp
                 exact hK _ _ ⟨_, rfl, by simp only [over, overL, Nat.reduceAdd, h30, h38]; rfl, Below.refl _ _⟩
               · intro f w1 hb ⟨h30, h39, _⟩
                 replace h30 : f 30 = _ := h30
                 replace h39 : f 39 = _ := h39
                 refine ⟨fun _ => ?_, fun hg => absurd h30 hg⟩
                 intro K hK
                 simp only [over, overL, Nat.reduceAdd, h30, h39]
                 go_simp
                 exact hK _ _ ⟨_, rfl, by simp only [over, overL, Nat.reduceAdd, h30, h39]; rfl, Below.refl _ _⟩
               · intro f w1 hb ⟨h30, h40, _⟩
                 replace h30 : f 30 = _ := h30
                 replace h40 : f 40 = _ := h40
                 refine ⟨fun _ => ?_, fun hg => absurd h30 hg⟩
                 intro K hK
                 have q1 := (KS.out.later hb).c 1 rfl
                 simp only [over, overL, Nat.reduceAdd, h30, h40]
                 go_simp
                 exact hK _ _ ⟨_, rfl, by simp only [over, overL, Nat.reduceAdd, h30, h40]; rfl, Below.refl _ _⟩
               · intro f w1 hb ⟨h30, _⟩
                 replace h30 : f 30 = _ := h30
                 refine ⟨fun _ => ?_, fun hg => absurd h30 hg⟩
                 intro K hK
                 simp only [over, overL, Nat.reduceAdd, h30]
                 go_simp
                 exact hK _ _ ⟨_, rfl, by simp only [over, overL, Nat.reduceAdd, h30]; rfl, Below.refl _ _⟩
               · intro f w1 hb ⟨h30, h42, _⟩
                 replace h30 : f 30 = _ := h30
                 replace h42 : f 42 = _ := h42
                 refine ⟨fun _ => ?_, fun hg => absurd h30 hg⟩
                 intro K hK
                 simp only [over, overL, Nat.reduceAdd, h30, h42]
                 go_simp
                 exact hK _ _ ⟨_, HIJ.out, by simp only [over, overL, Nat.reduceAdd, h30, h42]; rfl, Below.refl _ _⟩
               · intro f w1 hb ⟨h30, h41, h43, _⟩
                 replace h30 : f 30 = _ := h30
                 replace h41 : f 41 = _ := h41
                 replace h43 : f 43 = _ := h43
                 refine ⟨fun _ => ?_, fun hg => absurd h30 hg⟩
                 intro K hK
                 simp only [over, overL, Nat.reduceAdd, h30, h41, h43]
                 go_simp
                 exact hK _ _ ⟨_, rfl, by simp only [over, overL, Nat.reduceAdd, h30, h41, h43]; rfl, Below.refl _ _⟩
               · intro f w1 hb ⟨h30, h44, _⟩
                 replace h30 : f 30 = _ := h30
                 replace h44 : f 44 = _ := h44
                 refine ⟨fun _ => ?_, fun hg => absurd h30 hg⟩
                 intro K hK
                 simp only [over, overL, Nat.reduceAdd, h30, h44]
                 go_simp
                 refine (HUN.out w1 hb).mono ?_
                 rintro e w2 ⟨rfl, hb2⟩
                 exact hK _ _ ⟨_, rfl, by simp only [over, overL, Nat.reduceAdd, h30, h44]; rfl, hb2⟩
               · intro f w1 hb ⟨h30, h37, h45, _⟩
                 replace h30 : f 30 = _ := h30
                 replace h37 : f 37 = _ := h37
                 replace h45 : f 45 = _ := h45
                 refine ⟨fun _ => ?_, fun hg => absurd h30 hg⟩
                 intro K hK
                 simp only [over, overL, Nat.reduceAdd, h30, h37, h45]
                 go_simp
                 refine (HSS.out w1 hb).mono ?_
                 rintro e w2 ⟨rfl, hb2⟩
                 exact hK _ _ ⟨_, rfl, by simp only [over, overL, Nat.reduceAdd, h30, h37, h45]; rfl, hb2⟩
               · intro f w1 hb ⟨h30, h46, _⟩ K hK
                 replace h30 : f 30 = _ := h30
                 replace h46 : f 46 = _ := h46
                 simp only [over, overL, Nat.reduceAdd, h30, h46]
                 go_simp
                 exact hK _ _ ⟨_, rfl, by simp only [over, overL, Nat.reduceAdd, h30, h46]; rfl, Below.refl _ _⟩
               · intro f w1 hb ⟨h47, _⟩ K hK
                 replace h47 : f 47 = _ := h47
                 simp only [over, overL, Nat.reduceAdd, h47]
                 go_simp
                 exact hK _ _ ⟨_, rfl, by simp only [over, overL, Nat.reduceAdd, h47]; rfl, Below.refl _ _⟩
               · intro f w1 hb ⟨h48, _⟩
                 replace h48 : f 48 = _ := h48
                 exact ⟨fun hg => absurd (h48.symm.trans hg) (by simp), fun _ => trivial⟩
               · intro f w1 hb ⟨h48, _⟩
                 replace h48 : f 48 = _ := h48
                 exact ⟨fun hg => absurd (h48.symm.trans hg) (by simp), fun _ => trivial⟩
               · intro f w1 hb ⟨h48, h49, h50, _⟩
                 replace h48 : f 48 = _ := h48
                 exact ⟨fun hg => absurd (h48.symm.trans hg) (by simp), fun _ => trivial⟩
               · intro f w1 hb ⟨h48, h51, _⟩ K hK
                 replace h48 : f 48 = _ := h48
                 simp only [over, overL, Nat.reduceAdd, h48]
                 go_simp
                 exact hK _ _ ⟨_, rfl, by simp only [over, overL, Nat.reduceAdd, h48]; rfl, Below.refl _ _⟩
             intro f w8 hb8 hv
             have h52 : f 52 = .bool false := hv.2.2.2.2.2.2.2.2.2.2.2.2.2.2.2.2.2.2.2.2.2.2.2.2.2.2.2.2.2.1
             have HB8 : Hid (Below wr.heap.size wr w8) := hb8
             clear hv hb8
             simp only [over, overL, Nat.reduceAdd, h52]
             clear h52
             go_wp2
             go_meet
             exact ⟨by rw [HE.out], HB8.out⟩
          | true =>
           have hjn := HSJ.out rfl
           have hjc : ¬ capA = j := by omega
           have HE : Hid (ofV = goV) := by show _ = _; rw [HOB.out]; rfl
           have HMG := (show Hid _ from HMG0.out hjn rfl)
           have HUN : Hid (∀ W, Below wr.heap.size wr W → Calls Tryz.prog 45 #[.slice (some ⟨g, j * 8, none⟩) (n - j) (capA - j)] W fun r w' => r = .returned (.slice (some ⟨g, j * 8, none⟩) u (capA - j)) ∧ Below W.heap.size W w') := fun W hb => HUN0.out W _ (HPD.out W hb) hnc
           have HSS : Hid (∀ W, Below wr.heap.size wr W → Calls Tryz.prog 44 #[.slice (some ⟨g, tk * 8, none⟩) (k - tk) (capA - tk), .slice (some ⟨g, j * 8, none⟩) u (capA - j)] W fun r w' => r = .returned (.bool true) ∧ Below W.heap.size W w') := fun W hb => HSS0.out W _ hb (HPU.out W hb)
           clear HUN0 HSS0 HMG0 HOB HCC HSJ
           go_wp2_with fail
           refine region_inv [false, false, false, false, false, false, false, false, false, false, false, false, false, false, false, false, false, false, false, false, false, false, false, true, true, true, true, true, true, true, true, true, true, true, true, true, true, true, true, true, true, true, true, true, true, true, true, true, true, true, true, true, true, false, false, false, false, false, false, false, false, false, false, false, false, false, false, false, false, false, false, false, false, false, false, false, false]
             [(23, [], none), (24, [23], none), (25, [24], none), (26, [25], none), (27, [], none), (28, [26, 27], none), (29, [28], none), (30, [29], none), (31, [30], some (30, true)), (32, [30, 31], some (30, true)), (33, [30, 32], some (30, true)), (34, [30, 33], some (30, true)), (35, [30], some (30, true)), (36, [30], some (30, true)), (37, [30, 34, 35, 36], some (30, true)), (38, [30], some (30, true)), (39, [30, 38], some (30, true)), (40, [30, 39], some (30, true)), (41, [30, 40], some (30, true)), (42, [30], some (30, true)), (43, [30, 42], some (30, true)), (44, [30, 41, 43], some (30, true)), (45, [30, 44], some (30, true)), (46, [30, 37, 45], some (30, true)), (47, [30, 46], none), (48, [47], none), (49, [48], some (48, true)), (50, [48], some (48, true)), (51, [48, 49, 50], some (48, true)), (52, [48, 51], none)]
             (svC sb g n capA k tk j u goV) (by kernel_rfl) (by kernel_rfl) (svC_mono sb g n capA k tk j u goV) ?_ ?_
           · refine ⟨?_, ?_, ?_, ?_, ?_, ?_, ?_, ?_, ?_, ?_, ?_, ?_, ?_, ?_, ?_, ?_, ?_, ?_, ?_, ?_, ?_, ?_, ?_, ?_, ?_, ?_, ?_, ?_, ?_, ?_, trivial⟩
             · intro f w1 hb _ K hK
               simp only [over, overL, Nat.reduceAdd]
               go_simp
               exact hK _ _ ⟨_, rfl, by simp only [over, overL, Nat.reduceAdd]; rfl, Below.refl _ _⟩
             · intro f w1 hb ⟨h23, _⟩ K hK
               replace h23 : f 23 = _ := h23
               simp only [over, overL, Nat.reduceAdd, h23]
               go_simp
               exact hK _ _ ⟨_, rfl, by simp only [over, overL, Nat.reduceAdd, h23]; rfl, Below.refl _ _⟩
             · intro f w1 hb ⟨h24, _⟩ K hK
               replace h24 : f 24 = _ := h24
               simp only [over, overL, Nat.reduceAdd, h24]
               go_simp
               exact hK _ _ ⟨_, rfl, by simp only [over, overL, Nat.reduceAdd, h24]; rfl, Below.refl _ _⟩
             · intro f w1 hb ⟨h25, _⟩ K hK
               replace h25 : f 25 = _ := h25
               have q1 := (KS.out.later hb).c 1 rfl
               simp only [over, overL, Nat.reduceAdd, h25]
               go_simp
               exact hK _ _ ⟨_, rfl, by simp only [over, overL, Nat.reduceAdd, h25]; rfl, Below.refl _ _⟩
             · intro f w1 hb _ K hK
               simp only [over, overL, Nat.reduceAdd]
               go_simp
               exact hK _ _ ⟨_, rfl, by simp only [over, overL, Nat.reduceAdd]; rfl, Below.refl _ _⟩
             · intro f w1 hb ⟨h26, h27, _⟩ K hK
               replace h26 : f 26 = _ := h26
               replace h27 : f 27 = _ := h27
               simp only [over, overL, Nat.reduceAdd, h26, h27]
               go_simp
               exact hK _ _ ⟨_, rfl, by simp only [over, overL, Nat.reduceAdd, h26, h27]; rfl, Below.refl _ _⟩
             · intro f w1 hb ⟨h28, _⟩ K hK
               replace h28 : f 28 = _ := h28
               simp only [over, overL, Nat.reduceAdd, h28]
               go_simp
               refine (HCH.out w1 hb).mono ?_
               rintro e w2 ⟨rfl, rfl⟩
               exact hK _ _ ⟨_, rfl, by simp only [over, overL, Nat.reduceAdd, h28]; rfl, Below.refl _ _⟩
             · intro f w1 hb ⟨h29, _⟩ K hK
               replace h29 : f 29 = _ := h29
               simp only [over, overL, Nat.reduceAdd, h29]
               go_simp
               exact hK _ _ ⟨_, rfl, by simp only [over, overL, Nat.reduceAdd, h29]; rfl, Below.refl _ _⟩
             · intro f w1 hb ⟨h30, _⟩
               replace h30 : f 30 = _ := h30
               refine ⟨fun _ => ?_, fun hg => absurd h30 hg⟩
               intro K hK
               simp only [over, overL, Nat.reduceAdd, h30]
               go_simp
               exact hK _ _ ⟨_, rfl, by simp only [over, overL, Nat.reduceAdd, h30]; rfl, Below.refl _ _⟩
             · intro f w1 hb ⟨h30, h31, _⟩
               replace h30 : f 30 = _ := h30
               replace h31 : f 31 = _ := h31
               refine ⟨fun _ => ?_, fun hg => absurd h30 hg⟩
               intro K hK
               simp only [over, overL, Nat.reduceAdd, h30, h31]
               go_simp
               exact hK _ _ ⟨_, rfl, by simp only [over, overL, Nat.reduceAdd, h30, h31]; rfl, Below.refl _ _⟩
             · intro f w1 hb ⟨h30, h32, _⟩
               replace h30 : f 30 = _ := h30
               replace h32 : f 32 = _ := h32
               refine ⟨fun _ => ?_, fun hg => absurd h30 hg⟩
               intro K hK
               simp only [over, overL, Nat.reduceAdd, h30, h32]
               go_simp
               exact hK _ _ ⟨_, rfl, by simp only [over, overL, Nat.reduceAdd, h30, h32]; rfl, Below.refl _ _⟩
             · intro f w1 hb ⟨h30, h33, _⟩
               replace h30 : f 30 = _ := h30
               replace h33 : f 33 = _ := h33
               refine ⟨fun _ => ?_, fun hg => absurd h30 hg⟩
               intro K hK
               have q1 := (KS.out.later hb).c 1 rfl
               simp only [over, overL, Nat.reduceAdd, h30, h33]
               go_simp
               exact hK _ _ ⟨_, rfl, by simp only [over, overL, Nat.reduceAdd, h30, h33]; rfl, Below.refl _ _⟩
             · intro f w1 hb ⟨h30, _⟩
               replace h30 : f 30 = _ := h30
               refine ⟨fun _ => ?_, fun hg => absurd h30 hg⟩
               intro K hK
               simp only [over, overL, Nat.reduceAdd, h30]
               go_simp
               exact hK _ _ ⟨_, rfl, by simp only [over, overL, Nat.reduceAdd, h30]; rfl, Below.refl _ _⟩
             · intro f w1 hb ⟨h30, _⟩
               replace h30 : f 30 = _ := h30
               refine ⟨fun _ => ?_, fun hg => absurd h30 hg⟩
               intro K hK
               simp only [over, overL, Nat.reduceAdd, h30]
               go_simp
               exact hK _ _ ⟨_, rfl, by simp only [over, overL, Nat.reduceAdd, h30]; rfl, Below.refl _ _⟩
             · intro f w1 hb ⟨h30, h34, h35, h36, _⟩
               replace h30 : f 30 = _ := h30
               replace h34 : f 34 = _ := h34
               replace h35 : f 35 = _ := h35
               replace h36 : f 36 = _ := h36
               refine ⟨fun _ => ?_, fun hg => absurd h30 hg⟩
               intro K hK
               simp only [over, overL, Nat.reduceAdd, h30, h34, h35, h36]
               go_simp
               exact hK _ _ ⟨_, rfl, by simp only [over, overL, Nat.reduceAdd, h30, h34, h35, h36]; rfl, Below.refl _ _⟩
             · intro f w1 hb ⟨h30, _⟩
               replace h30 : f 30 = _ := h30
               refine ⟨fun _ => ?_, fun hg => absurd h30 hg⟩
               intro K hK
               simp only [over, overL, Nat.reduceAdd, h30]
               go_simp
               exact hK _ _ ⟨_, rfl, by simp only [over, overL, Nat.reduceAdd, h30]; rfl, Below.refl _ _⟩
             · intro f w1 hb ⟨h30, h38, _⟩
               replace h30 : f 30 = _ := h30
               replace h38 : f 38 = _ := h38
               refine ⟨fun _ => ?_, fun hg => absurd h30 hg⟩
               intro K hK
               simp only [over, overL, Nat.reduceAdd, h30, h38]
               go_simp
               exact hK _ _ ⟨_, rfl, by simp only [over, overL, Nat.reduceAdd, h30, h38]; rfl, Below.refl _ _⟩
             · intro f w1 hb ⟨h30, h39, _⟩
               replace h30 : f 30 = _ := h30
               replace h39 : f 39 = _ := h39
               refine ⟨fun _ => ?_, fun hg => absurd h30 hg⟩
               intro K hK
               simp only [over, overL, Nat.reduceAdd, h30, h39]
               go_simp
               exact hK _ _ ⟨_, rfl, by simp only [over, overL, Nat.reduceAdd, h30, h39]; rfl, Below.refl _ _⟩
             · intro f w1 hb ⟨h30, h40, _⟩
               replace h30 : f 30 = _ := h30
               replace h40 : f 40 = _ := h40
               refine ⟨fun _ => ?_, fun hg => absurd h30 hg⟩
               intro K hK
               have q1 := (KS.out.later hb).c 1 rfl
               simp only [over, overL, Nat.reduceAdd, h30, h40]
               go_simp
               exact hK _ _ ⟨_, rfl, by simp only [over, overL, Nat.reduceAdd, h30, h40]; rfl, Below.refl _ _⟩
             · intro f w1 hb ⟨h30, _⟩
               replace h30 : f 30 = _ := h30
               refine ⟨fun _ => ?_, fun hg => absurd h30 hg⟩
               intro K hK
               simp only [over, overL, Nat.reduceAdd, h30]
               go_simp
               exact hK _ _ ⟨_, rfl, by simp only [over, overL, Nat.reduceAdd, h30]; rfl, Below.refl _ _⟩
             · intro f w1 hb ⟨h30, h42, _⟩
               replace h30 : f 30 = _ := h30
               replace h42 : f 42 = _ := h42
               refine ⟨fun _ => ?_, fun hg => absurd h30 hg⟩
               intro K hK
               simp only [over, overL, Nat.reduceAdd, h30, h42]
               go_simp
               exact hK _ _ ⟨_, HIJ.out, by simp only [over, overL, Nat.reduceAdd, h30, h42]; rfl, Below.refl _ _⟩
             · intro f w1 hb ⟨h30, h41, h43, _⟩
               replace h30 : f 30 = _ := h30
               replace h41 : f 41 = _ := h41
               replace h43 : f 43 = _ := h43
               refine ⟨fun _ => ?_, fun hg => absurd h30 hg⟩
               intro K hK
               simp only [over, overL, Nat.reduceAdd, h30, h41, h43]
               go_simp
               exact hK _ _ ⟨_, rfl, by simp only [over, overL, Nat.reduceAdd, h30, h41, h43]; rfl, Below.refl _ _⟩
             · intro f w1 hb ⟨h30, h44, _⟩
               replace h30 : f 30 = _ := h30
               replace h44 : f 44 = _ := h44
               refine ⟨fun _ => ?_, fun hg => absurd h30 hg⟩
               intro K hK
               simp only [over, overL, Nat.reduceAdd, h30, h44]
               go_simp
               refine (HUN.out w1 hb).mono ?_
               rintro e w2 ⟨rfl, hb2⟩
               exact hK _ _ ⟨_, rfl, by simp only [over, overL, Nat.reduceAdd, h30, h44]; rfl, hb2⟩
             · intro f w1 hb ⟨h30, h37, h45, _⟩
               replace h30 : f 30 = _ := h30
               replace h37 : f 37 = _ := h37
               replace h45 : f 45 = _ := h45
               refine ⟨fun _ => ?_, fun hg => absurd h30 hg⟩
               intro K hK
               simp only [over, overL, Nat.reduceAdd, h30, h37, h45]
               go_simp
               refine (HSS.out w1 hb).mono ?_
               rintro e w2 ⟨rfl, hb2⟩
               exact hK _ _ ⟨_, rfl, by simp only [over, overL, Nat.reduceAdd, h30, h37, h45]; rfl, hb2⟩
             · intro f w1 hb ⟨h30, h46, _⟩ K hK
               replace h30 : f 30 = _ := h30
               replace h46 : f 46 = _ := h46
               simp only [over, overL, Nat.reduceAdd, h30, h46]
               go_simp
               exact hK _ _ ⟨_, rfl, by simp only [over, overL, Nat.reduceAdd, h30, h46]; rfl, Below.refl _ _⟩
             · intro f w1 hb ⟨h47, _⟩ K hK
               replace h47 : f 47 = _ := h47
               simp only [over, overL, Nat.reduceAdd, h47]
               go_simp
               exact hK _ _ ⟨_, rfl, by simp only [over, overL, Nat.reduceAdd, h47]; rfl, Below.refl _ _⟩
             · intro f w1 hb ⟨h48, _⟩
               replace h48 : f 48 = _ := h48
               refine ⟨fun _ => ?_, fun hg => absurd h48 hg⟩
               intro K hK
               simp only [over, overL, Nat.reduceAdd, h48]
               go_simp
               exact hK _ _ ⟨_, rfl, by simp only [over, overL, Nat.reduceAdd, h48]; rfl, Below.refl _ _⟩
             · intro f w1 hb ⟨h48, _⟩
               replace h48 : f 48 = _ := h48
               refine ⟨fun _ => ?_, fun hg => absurd h48 hg⟩
               intro K hK
               simp only [over, overL, Nat.reduceAdd, h48]
               go_simp
               exact hK _ _ ⟨_, rfl, by simp only [over, overL, Nat.reduceAdd, h48]; rfl, Below.refl _ _⟩
             · intro f w1 hb ⟨h48, h49, h50, _⟩
               replace h48 : f 48 = _ := h48
               replace h49 : f 49 = _ := h49
               replace h50 : f 50 = _ := h50
               refine ⟨fun _ => ?_, fun hg => absurd h48 hg⟩
               intro K hK
               simp only [over, overL, Nat.reduceAdd, h48, h49, h50]
               go_simp
               refine (HMG.out w1 hb).mono ?_
               rintro e w2 ⟨rfl, hb2⟩
               exact hK _ _ ⟨_, rfl, by simp only [over, overL, Nat.reduceAdd, h48, h49, h50]; rfl, hb2⟩
             · intro f w1 hb ⟨h48, h51, _⟩ K hK
               replace h48 : f 48 = _ := h48
               replace h51 : f 51 = _ := h51
               simp only [over, overL, Nat.reduceAdd, h48, h51]
               go_simp
               exact hK _ _ ⟨_, rfl, by simp only [over, overL, Nat.reduceAdd, h48, h51]; rfl, Below.refl _ _⟩
           intro f w8 hb8 hv
           have h52 : f 52 = .bool goV := hv.2.2.2.2.2.2.2.2.2.2.2.2.2.2.2.2.2.2.2.2.2.2.2.2.2.2.2.2.2.1
           have HB8 : Hid (Below wr.heap.size wr w8) := hb8
           clear hv hb8
           simp only [over, overL, Nat.reduceAdd, h52]
           clear h52
           go_wp2
           go_meet
           exact ⟨by rw [HE.out], HB8.out⟩
      case rest =>
        obtain ⟨hc1, hbc⟩ := hcut
        subst hc1
        obtain ⟨wx, hwx⟩ : ∃ x, x = wc := ⟨_, rfl⟩
        subst hwx
        have HSX : Hid (Sv X wB wx ao cap l sb g capA b m A e s1) := HS.out.next hbc
        have KSX : Hid (Bk sb (svc ao cap l g capA n e b) wx) := KS.out.later hbc
        clear hbc z1
        have z0 := (KSX.out).c 0 rfl
        have zf0 := (KSX.out).f 0 rfl
        have z1 := (KSX.out).c 1 rfl
        have zf1 := (KSX.out).f 1 rfl
        have z2 := (KSX.out).c 2 rfl
        have zf2 := (KSX.out).f 2 rfl
        have z3 := (KSX.out).c 3 rfl
        have zf3 := (KSX.out).f 3 rfl
        have z4 := (KSX.out).c 4 rfl
        have zf4 := (KSX.out).f 4 rfl
        have z5 := (KSX.out).c 5 rfl
        have zf5 := (KSX.out).f 5 rfl
        have z6 := (KSX.out).c 6 rfl
        have zf6 := (KSX.out).f 6 rfl
        have z7 := (KSX.out).c 7 rfl
        have zf7 := (KSX.out).f 7 rfl
        have z8 := (KSX.out).c 8 rfl
        have zf8 := (KSX.out).f 8 rfl
        have z9 := (KSX.out).c 9 rfl
        have zf9 := (KSX.out).f 9 rfl
        cases hofv : ofV with
        | true =>
          obtain ⟨hcg, hsr, hgg, hj3⟩ := off_parts HN.out (HOF.out.symm.trans hofv)
          obtain ⟨tB, htB, halB⟩ := goR_true hgg
          rw [← HJ.out] at htB hj3
          obtain ⟨A', hA'⟩ : ∃ x, x = A.take k ++ A.drop j := ⟨_, rfl⟩
          obtain ⟨n', hn'⟩ : ∃ x, x = k + (n - j) := ⟨_, rfl⟩
          have hAn : A'.length = n' := by rw [hA', hn', List.length_append, List.length_take, List.length_drop, HN.out]; omega
          have HAN : Hid (A'.length = n') := hAn
          have HKA : Hid (k < A'.length) := by show _ < _; rw [hAn, hn']; omega
          have HRT : Hid (runO l (A'.take k) sta0 = some s1) := by
            show _ = _
            rw [hA', List.take_append_of_le_length (by rw [List.length_take, HN.out]; omega), List.take_take, Nat.min_self]
            exact HRT0.out
          have HRA : Hid (runO l A' sta0 = some tB) := by show _ = _; rw [hA']; exact htB
          have HAL : Hid (alikeB tB e.st = true) := halB
          have HSA : Hid (saveF l e.st acs 0 0 = saveF l e.st A' (k + 1) tk) := by
            show _ = _
            have ho := HOF.out.symm.trans hofv
            rw [← HTKE.out] at ho
            rw [HSA0.out, save_off HKA0.out ho, HTKE.out, ← HJ.out, hA']
          have HAL0 : Hid (A'.length ≤ acs.length) := by show _ ≤ _; have := HAL00.out; have := HN.out; have := HJ.out; omega
          have HDL : Hid (Calls Tryz.prog 47 #[.slice (some ⟨g, 0, none⟩) n capA, .int .i64 (k : Int), .int .i64 ((k : Int) + 2)] wx fun r w' => r = .returned (.slice (some ⟨g, 0, none⟩) (k + (n - j)) capA) ∧ Lf w' g (A.take k ++ A.drop j) ∧ But g g wx w') := by
            have h := delA_any g capA k j n A wx HSX.out.lf HN.out HJ.out hj3 hnc hci
            rw [show ((j : Nat) : Int) = (k : Int) + 2 by have := HJ.out; omega] at h
            exact h
          have HSUB : Hid (∀ a ∈ A', a ∈ A) := fun a ha => by rw [hA'] at ha; rcases List.mem_append.1 ha with ha | ha; exact List.mem_of_mem_take ha; exact List.mem_of_mem_drop ha
          have HA' : Hid (A' = A.take k ++ A.drop j) := hA'
          have HN' : Hid (n' = k + (n - j)) := hn'
          clear hcg hsr hgg hj3 htB halB hA' hAn hn' hofv
          go_wp2_with fail
          refine Calls.mono HDL.out ?_
          rintro r w3 ⟨rfl, hlf, hbu⟩
          rw [← HN'.out]
          rw [← HA'.out] at hlf
          obtain ⟨w4, hw4⟩ : ∃ x, x = w3.setCell ⟨sb, 1, none⟩ (.slice (some ⟨g, 0, none⟩) n' capA) := ⟨_, rfl⟩
          have HS4 : Hid (Sv X wB w4 ao cap l sb g capA b m A' e s1) := by rw [hw4]; exact HSX.out.less hbu hlf (by have := HN.out; have := HAN.out; have := HN'.out; have := HJ.out; omega) HSUB.out HAN.out
          have KS3 : Hid (Bk sb (svc ao cap l g capA n e b) w3) := KSX.out.same hbu.size (hbu.block sb KSX.out.1 (Ne.symm HSX.out.ne.1) (Ne.symm HSX.out.ne.1))
          clear hlf hbu z0 zf0 z1 zf1 z2 zf2 z3 zf3 z4 zf4 z5 zf5 z6 zf6 z7 zf7 z8 zf8 z9 zf9
          have z0 := (KS3.out).c 0 rfl
          have zf0 := (KS3.out).f 0 rfl
          have z1 := (KS3.out).c 1 rfl
          have zf1 := (KS3.out).f 1 rfl
          have z2 := (KS3.out).c 2 rfl
          have zf2 := (KS3.out).f 2 rfl
          have z3 := (KS3.out).c 3 rfl
          have zf3 := (KS3.out).f 3 rfl
          have z4 := (KS3.out).c 4 rfl
          have zf4 := (KS3.out).f 4 rfl
          have z5 := (KS3.out).c 5 rfl
          have zf5 := (KS3.out).f 5 rfl
          have z6 := (KS3.out).c 6 rfl
          have zf6 := (KS3.out).f 6 rfl
          have z7 := (KS3.out).c 7 rfl
          have zf7 := (KS3.out).f 7 rfl
          have z8 := (KS3.out).c 8 rfl
          have zf8 := (KS3.out).f 8 rfl
          have z9 := (KS3.out).c 9 rfl
          have zf9 := (KS3.out).f 9 rfl
          go_wp2_with fail
          rw [← hw4]
          clear hw4 z0 zf0 z1 zf1 z2 zf2 z3 zf3 z4 zf4 z5 zf5 z6 zf6 z7 zf7 z8 zf8 z9 zf9
          obtain ⟨s2, hs2, hs3⟩ := run_next HKA.out HRT.out HRA.out
          have HS2 : Hid (runO l (A'.take (k + 1)) sta0 = some s2) := hs2
          obtain ⟨a, ha⟩ : ∃ a, a = A'[k]'HKA.out := ⟨_, rfl⟩
          have HS3 : Hid (runO l [a] s1 = some s2) := by show _ = _; rw [ha]; exact hs3
          have HAOK : Hid (a.label.size ≤ maxLen ∧ (Lit.int .i64 a.kind).wf = true ∧ Wf3 a.pl) := HS4.out.ok a (by rw [ha]; exact List.getElem_mem _)
          have HCL : Hid (∀ W, Below w4.heap.size w4 W → W.cell? ⟨g, k * 8, none⟩ = some (.int .i64 a.kind) ∧ W.cell? ⟨g, k * 8 + 1, none⟩ = some (.int .i64 a.pl.1) ∧ W.cell? ⟨g, k * 8 + 2, none⟩ = some (.int .i64 a.pl.2.1) ∧ W.cell? ⟨g, k * 8 + 3, none⟩ = some (.int .i64 a.pl.2.2) ∧ W.cell? ⟨g, k * 8 + 4, none⟩ = some (.string a.label) ∧ W.cell? ⟨g, k * 8 + 5, none⟩ = some (.int .i64 a.vol) ∧ W.cell? ⟨g, k * 8 + 6, none⟩ = some (.int .i64 a.value) ∧ W.cell? ⟨g, k * 8 + 7, none⟩ = some (.int .i64 a.time)) := fun W hb => by
            have h := (HS4.out.lf.next hb).2 k HKA.out
            rw [← ha] at h
            exact ⟨(h 0 (by decide)).1, (h 1 (by decide)).1, (h 2 (by decide)).1, (h 3 (by decide)).1, (h 4 (by decide)).1, (h 5 (by decide)).1, (h 6 (by decide)).1, (h 7 (by decide)).1⟩
          have KS4 : Hid (Bk sb (svc ao cap l g capA n' e b) w4) := by have := HS4.out.bk; rw [HAN.out] at this; exact this
          have hki : (k : Int) < (n' : Int) := by have := HKA.out; rw [HAN.out] at this; omega
          have hkn : k < n' := by omega
          have hx4 := HS4.out.fb.x
          have HLO : Hid (b < w4.heap.size ∧ m < w4.heap.size) := ⟨HS4.out.fb.low b hx4.1, HS4.out.fb.low m hx4.2⟩
          clear hs2 hs3 ha hx4
          refine region_seq 12 [false, false, false, false, false, false, false, false, false, false, false, false, false, false, false, false, false, false, false, false, false, false, false, false, false, false, false, false, false, false, false, false, false, false, false, false, false, false, false, false, false, false, false, false, false, false, false, false, false, false, false, false, false, false, false, false, false, false, false, false, false, false, false, false, true, true, true, true, true, true, true, true, true, true, true, true, false]
            [(64, [], none), (65, [64], none), (66, [65], none), (67, [66], none), (68, [], none), (69, [68], none), (70, [69], none), (71, [70], none), (72, [], none), (73, [71, 72], none), (74, [73], none), (75, [74], none)]
            (svE sb g n' capA k b w4.heap.size a) (by kernel_rfl) (by kernel_rfl) (by kernel_rfl) (by kernel_rfl) (by kernel_rfl) (by decide) (svE_mono sb g n' capA k b w4.heap.size a) ?_ ?_
          · refine ⟨?_, ?_, ?_, ?_, ?_, ?_, ?_, ?_, ?_, ?_, ?_, ?_, trivial⟩
            · intro f w1 hb _ K hK
              simp only [over, overL, Nat.reduceAdd]
              go_simp
              exact hK _ _ ⟨_, rfl, by simp only [over, overL, Nat.reduceAdd]; rfl, Below.refl _ _⟩
            · intro f w1 hb ⟨h64, _⟩ K hK
              replace h64 : f 64 = _ := h64
              simp only [over, overL, Nat.reduceAdd, h64]
              go_simp
              exact hK _ _ ⟨_, rfl, by simp only [over, overL, Nat.reduceAdd, h64]; rfl, Below.refl _ _⟩
            · intro f w1 hb ⟨h65, _⟩ K hK
              replace h65 : f 65 = _ := h65
              simp only [over, overL, Nat.reduceAdd, h65]
              go_simp
              exact hK _ _ ⟨_, rfl, by simp only [over, overL, Nat.reduceAdd, h65]; rfl, Below.refl _ _⟩
            · intro f w1 hb ⟨h66, _⟩ K hK
              replace h66 : f 66 = _ := h66
              have q9 := (KS4.out.later hb).c 9 rfl
              simp only [over, overL, Nat.reduceAdd, h66]
              go_simp
              exact hK _ _ ⟨_, rfl, by simp only [over, overL, Nat.reduceAdd, h66]; rfl, Below.refl _ _⟩
            · intro f w1 hb _ K hK
              simp only [over, overL, Nat.reduceAdd]
              go_simp
              exact hK _ _ ⟨_, rfl, by simp only [over, overL, Nat.reduceAdd]; rfl, Below.refl _ _⟩
            · intro f w1 hb ⟨h68, _⟩ K hK
              replace h68 : f 68 = _ := h68
              simp only [over, overL, Nat.reduceAdd, h68]
              go_simp
              exact hK _ _ ⟨_, rfl, by simp only [over, overL, Nat.reduceAdd, h68]; rfl, Below.refl _ _⟩
            · intro f w1 hb ⟨h69, _⟩ K hK
              replace h69 : f 69 = _ := h69
              simp only [over, overL, Nat.reduceAdd, h69]
              go_simp
              exact hK _ _ ⟨_, rfl, by simp only [over, overL, Nat.reduceAdd, h69]; rfl, Below.refl _ _⟩
            · intro f w1 hb ⟨h70, _⟩ K hK
              replace h70 : f 70 = _ := h70
              have q1 := (KS4.out.later hb).c 1 rfl
              simp only [over, overL, Nat.reduceAdd, h70]
              go_simp
              exact hK _ _ ⟨_, rfl, by simp only [over, overL, Nat.reduceAdd, h70]; rfl, Below.refl _ _⟩
            · intro f w1 hb _ K hK
              simp only [over, overL, Nat.reduceAdd]
              go_simp
              exact hK _ _ ⟨_, rfl, by simp only [over, overL, Nat.reduceAdd]; rfl, Below.refl _ _⟩
            · intro f w1 hb ⟨h71, h72, _⟩ K hK
              replace h71 : f 71 = _ := h71
              replace h72 : f 72 = _ := h72
              simp only [over, overL, Nat.reduceAdd, h71, h72]
              go_simp
              exact hK _ _ ⟨_, rfl, by simp only [over, overL, Nat.reduceAdd, h71, h72]; rfl, Below.refl _ _⟩
            · intro f w1 hb ⟨h73, _⟩ K hK
              replace h73 : f 73 = _ := h73
              obtain ⟨c0, c1, c2, c3, c4, c5, c6, c7⟩ := HCL.out w1 hb
              simp only [over, overL, Nat.reduceAdd, h73]
              go_simp
              exact hK _ _ ⟨_, rfl, by simp only [over, overL, Nat.reduceAdd, h73]; rfl, Below.refl _ _⟩
            · intro f w1 hb ⟨h74, _⟩ K hK
              replace h74 : f 74 = _ := h74
              simp only [over, overL, Nat.reduceAdd, h74]
              go_simp
              exact hK _ _ ⟨_, ⟨w1.heap.size, rfl, hb.size, Bk.new w1 (acl a) 55 w1.heap.size rfl⟩, by simp only [over, overL, Nat.reduceAdd, h74]; rfl, (Below.refl _ _).alloc (Nat.le_refl _) _⟩
          intro f w5 hb hv
          have h67 : f 67 = ptr b := hv.2.2.2.1
          obtain ⟨B, h75, hB, hK5⟩ := (show ∃ B, f 75 = .slice (some ⟨B, 0, none⟩) 1 1 ∧ w4.heap.size ≤ B ∧ Bk B (acl a) w5 from hv.2.2.2.2.2.2.2.2.2.2.2.1)
          have HS5 : Hid (Sv X wB w5 ao cap l sb g capA b m A' e s1) := HS4.out.next hb
          have HA5 : Hid (Acs w5 (some ⟨B, 0, none⟩) [a]) := ⟨one_acs hK5, fun x hx => by rw [List.mem_singleton.1 hx]; exact ⟨HAOK.out.1, HAOK.out.2.1⟩⟩
          have HBB : Hid (B ≠ b ∧ B ≠ m) := ⟨by have := HLO.out; omega, by have := HLO.out; omega⟩
          clear hv hb hK5
          simp only [List.drop, over, overL, Nat.reduceAdd, h67, h75]
          clear h67 h75
          go_wp2_with fail
          refine (doF_any X wB w5 ao cap l b m s1 (some ⟨B, 0, none⟩) 1 [a] HS5.out.fb HA5.out (fun x hx => by rw [List.mem_singleton.1 hx]; exact HAOK.out.2.2) (fun x hx => by injection hx with hx; rw [← hx]; exact HBB.out) (by simp)).mono ?_
          rintro r w6 ⟨c6, s6, rfl, hf6, hbu6, hr6⟩
          obtain rfl : s6 = s2 := by
            rcases hr6 with ⟨h1, _⟩ | ⟨h1, _⟩
            · rw [HS3.out] at h1; injection h1 with h1; exact h1.symm
            · rw [HS3.out] at h1; cases h1
          have HS6 : Hid (Sv X wB w6 ao cap l sb g capA b m A' e s6) := HS5.out.did hbu6 hf6
          clear hr6 hf6 hbu6
          go_wp2
          go_roundw
          case rel => exact ⟨A', k + 1, tk, s6, _, rfl, by go_num, by have := HTK2.out; omega, HKA.out, HAL0.out, HS6.out, HS2.out, HRA.out, HAL.out, HSA.out⟩
          case measure => simp [intOf]; have := HKA.out; have := HAL0.out; omega
        | false =>
          obtain ⟨w4, hw4⟩ : ∃ x, x = wx := ⟨_, rfl⟩
          obtain ⟨A', hA'⟩ : ∃ x, x = A := ⟨_, rfl⟩
          have HS4 : Hid (Sv X wB w4 ao cap l sb g capA b m A' e s1) := by rw [hw4, hA']; exact HSX.out
          have HAN : Hid (A'.length = n) := by rw [hA']; exact HN.out
          have HKA : Hid (k < A'.length) := by rw [hA']; exact HKA0.out
          have HRT : Hid (runO l (A'.take k) sta0 = some s1) := by rw [hA']; exact HRT0.out
          have HRA : Hid (runO l A' sta0 = some tA) := by rw [hA']; exact HRA0.out
          have HAL := HAL1
          have HAL0 : Hid (A'.length ≤ acs.length) := by rw [hA']; exact HAL00.out
          have HSA : Hid (saveF l e.st acs 0 0 = saveF l e.st A' (k + 1) tk) := by
            show _ = _
            have ho := HOF.out.symm.trans hofv
            rw [← HTKE.out] at ho
            rw [HSA0.out, save_on HKA0.out ho, HTKE.out, hA']
          clear hA' hofv z0 zf0 z1 zf1 z2 zf2 z3 zf3 z4 zf4 z5 zf5 z6 zf6 z7 zf7 z8 zf8 z9 zf9
          go_wp2_with fail
          rw [← hw4]
          clear hw4
          obtain ⟨s2, hs2, hs3⟩ := run_next HKA.out HRT.out HRA.out
          have HS2 : Hid (runO l (A'.take (k + 1)) sta0 = some s2) := hs2
          obtain ⟨a, ha⟩ : ∃ a, a = A'[k]'HKA.out := ⟨_, rfl⟩
          have HS3 : Hid (runO l [a] s1 = some s2) := by show _ = _; rw [ha]; exact hs3
          have HAOK : Hid (a.label.size ≤ maxLen ∧ (Lit.int .i64 a.kind).wf = true ∧ Wf3 a.pl) := HS4.out.ok a (by rw [ha]; exact List.getElem_mem _)
          have HCL : Hid (∀ W, Below w4.heap.size w4 W → W.cell? ⟨g, k * 8, none⟩ = some (.int .i64 a.kind) ∧ W.cell? ⟨g, k * 8 + 1, none⟩ = some (.int .i64 a.pl.1) ∧ W.cell? ⟨g, k * 8 + 2, none⟩ = some (.int .i64 a.pl.2.1) ∧ W.cell? ⟨g, k * 8 + 3, none⟩ = some (.int .i64 a.pl.2.2) ∧ W.cell? ⟨g, k * 8 + 4, none⟩ = some (.string a.label) ∧ W.cell? ⟨g, k * 8 + 5, none⟩ = some (.int .i64 a.vol) ∧ W.cell? ⟨g, k * 8 + 6, none⟩ = some (.int .i64 a.value) ∧ W.cell? ⟨g, k * 8 + 7, none⟩ = some (.int .i64 a.time)) := fun W hb => by
            have h := (HS4.out.lf.next hb).2 k HKA.out
            rw [← ha] at h
            exact ⟨(h 0 (by decide)).1, (h 1 (by decide)).1, (h 2 (by decide)).1, (h 3 (by decide)).1, (h 4 (by decide)).1, (h 5 (by decide)).1, (h 6 (by decide)).1, (h 7 (by decide)).1⟩
          have KS4 : Hid (Bk sb (svc ao cap l g capA n e b) w4) := by have := HS4.out.bk; rw [HAN.out] at this; exact this
          have hki : (k : Int) < (n : Int) := by have := HKA.out; rw [HAN.out] at this; omega
          have hkn : k < n := by omega
          have hx4 := HS4.out.fb.x
          have HLO : Hid (b < w4.heap.size ∧ m < w4.heap.size) := ⟨HS4.out.fb.low b hx4.1, HS4.out.fb.low m hx4.2⟩
          clear hs2 hs3 ha hx4
          refine region_seq 12 [false, false, false, false, false, false, false, false, false, false, false, false, false, false, false, false, false, false, false, false, false, false, false, false, false, false, false, false, false, false, false, false, false, false, false, false, false, false, false, false, false, false, false, false, false, false, false, false, false, false, false, false, false, false, false, false, false, false, false, false, false, false, false, false, true, true, true, true, true, true, true, true, true, true, true, true, false]
            [(64, [], none), (65, [64], none), (66, [65], none), (67, [66], none), (68, [], none), (69, [68], none), (70, [69], none), (71, [70], none), (72, [], none), (73, [71, 72], none), (74, [73], none), (75, [74], none)]
            (svE sb g n capA k b w4.heap.size a) (by kernel_rfl) (by kernel_rfl) (by kernel_rfl) (by kernel_rfl) (by kernel_rfl) (by decide) (svE_mono sb g n capA k b w4.heap.size a) ?_ ?_
          · refine ⟨?_, ?_, ?_, ?_, ?_, ?_, ?_, ?_, ?_, ?_, ?_, ?_, trivial⟩
            · intro f w1 hb _ K hK
              simp only [over, overL, Nat.reduceAdd]
              go_simp
              exact hK _ _ ⟨_, rfl, by simp only [over, overL, Nat.reduceAdd]; rfl, Below.refl _ _⟩
            · intro f w1 hb ⟨h64, _⟩ K hK
              replace h64 : f 64 = _ := h64
              simp only [over, overL, Nat.reduceAdd, h64]
              go_simp
              exact hK _ _ ⟨_, rfl, by simp only [over, overL, Nat.reduceAdd, h64]; rfl, Below.refl _ _⟩
            · intro f w1 hb ⟨h65, _⟩ K hK
              replace h65 : f 65 = _ := h65
              simp only [over, overL, Nat.reduceAdd, h65]
              go_simp
              exact hK _ _ ⟨_, rfl, by simp only [over, overL, Nat.reduceAdd, h65]; rfl, Below.refl _ _⟩
            · intro f w1 hb ⟨h66, _⟩ K hK
              replace h66 : f 66 = _ := h66
              have q9 := (KS4.out.later hb).c 9 rfl
              simp only [over, overL, Nat.reduceAdd, h66]
              go_simp
              exact hK _ _ ⟨_, rfl, by simp only [over, overL, Nat.reduceAdd, h66]; rfl, Below.refl _ _⟩
            · intro f w1 hb _ K hK
              simp only [over, overL, Nat.reduceAdd]
              go_simp
              exact hK _ _ ⟨_, rfl, by simp only [over, overL, Nat.reduceAdd]; rfl, Below.refl _ _⟩
            · intro f w1 hb ⟨h68, _⟩ K hK
              replace h68 : f 68 = _ := h68
              simp only [over, overL, Nat.reduceAdd, h68]
              go_simp
              exact hK _ _ ⟨_, rfl, by simp only [over, overL, Nat.reduceAdd, h68]; rfl, Below.refl _ _⟩
            · intro f w1 hb ⟨h69, _⟩ K hK
              replace h69 : f 69 = _ := h69
              simp only [over, overL, Nat.reduceAdd, h69]
              go_simp
              exact hK _ _ ⟨_, rfl, by simp only [over, overL, Nat.reduceAdd, h69]; rfl, Below.refl _ _⟩
            · intro f w1 hb ⟨h70, _⟩ K hK
              replace h70 : f 70 = _ := h70
              have q1 := (KS4.out.later hb).c 1 rfl
              simp only [over, overL, Nat.reduceAdd, h70]
              go_simp
              exact hK _ _ ⟨_, rfl, by simp only [over, overL, Nat.reduceAdd, h70]; rfl, Below.refl _ _⟩
            · intro f w1 hb _ K hK
              simp only [over, overL, Nat.reduceAdd]
              go_simp
              exact hK _ _ ⟨_, rfl, by simp only [over, overL, Nat.reduceAdd]; rfl, Below.refl _ _⟩
            · intro f w1 hb ⟨h71, h72, _⟩ K hK
              replace h71 : f 71 = _ := h71
              replace h72 : f 72 = _ := h72
              simp only [over, overL, Nat.reduceAdd, h71, h72]
              go_simp
              exact hK _ _ ⟨_, rfl, by simp only [over, overL, Nat.reduceAdd, h71, h72]; rfl, Below.refl _ _⟩
            · intro f w1 hb ⟨h73, _⟩ K hK
              replace h73 : f 73 = _ := h73
              obtain ⟨c0, c1, c2, c3, c4, c5, c6, c7⟩ := HCL.out w1 hb
              simp only [over, overL, Nat.reduceAdd, h73]
              go_simp
              exact hK _ _ ⟨_, rfl, by simp only [over, overL, Nat.reduceAdd, h73]; rfl, Below.refl _ _⟩
            · intro f w1 hb ⟨h74, _⟩ K hK
              replace h74 : f 74 = _ := h74
              simp only [over, overL, Nat.reduceAdd, h74]
              go_simp
              exact hK _ _ ⟨_, ⟨w1.heap.size, rfl, hb.size, Bk.new w1 (acl a) 55 w1.heap.size rfl⟩, by simp only [over, overL, Nat.reduceAdd, h74]; rfl, (Below.refl _ _).alloc (Nat.le_refl _) _⟩
          intro f w5 hb hv
          have h67 : f 67 = ptr b := hv.2.2.2.1
          obtain ⟨B, h75, hB, hK5⟩ := (show ∃ B, f 75 = .slice (some ⟨B, 0, none⟩) 1 1 ∧ w4.heap.size ≤ B ∧ Bk B (acl a) w5 from hv.2.2.2.2.2.2.2.2.2.2.2.1)
          have HS5 : Hid (Sv X wB w5 ao cap l sb g capA b m A' e s1) := HS4.out.next hb
          have HA5 : Hid (Acs w5 (some ⟨B, 0, none⟩) [a]) := ⟨one_acs hK5, fun x hx => by rw [List.mem_singleton.1 hx]; exact ⟨HAOK.out.1, HAOK.out.2.1⟩⟩
          have HBB : Hid (B ≠ b ∧ B ≠ m) := ⟨by have := HLO.out; omega, by have := HLO.out; omega⟩
          clear hv hb hK5
          simp only [List.drop, over, overL, Nat.reduceAdd, h67, h75]
          clear h67 h75
          go_wp2_with fail
          refine (doF_any X wB w5 ao cap l b m s1 (some ⟨B, 0, none⟩) 1 [a] HS5.out.fb HA5.out (fun x hx => by rw [List.mem_singleton.1 hx]; exact HAOK.out.2.2) (fun x hx => by injection hx with hx; rw [← hx]; exact HBB.out) (by simp)).mono ?_
          rintro r w6 ⟨c6, s6, rfl, hf6, hbu6, hr6⟩
          obtain rfl : s6 = s2 := by
            rcases hr6 with ⟨h1, _⟩ | ⟨h1, _⟩
            · rw [HS3.out] at h1; injection h1 with h1; exact h1.symm
            · rw [HS3.out] at h1; cases h1
          have HS6 : Hid (Sv X wB w6 ao cap l sb g capA b m A' e s6) := HS5.out.did hbu6 hf6
          clear hr6 hf6 hbu6
          go_wp2
          go_roundw
          case rel => exact ⟨A', k + 1, tk, s6, _, rfl, by go_num, by have := HTK2.out; omega, HKA.out, HAL0.out, HS6.out, HS2.out, HRA.out, HAL.out, HSA.out⟩
          case measure => simp [intOf]; have := HKA.out; have := HAL0.out; omega
end Go.Proofs.YtgbnjgenopdmfaaGreat
