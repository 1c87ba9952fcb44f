import Derived.Test.YtcajifelbldjnaaGreatDoorIq
import Derived.Laws.StructEq
import Derived.Test.YtcajifelbldjnaaGreatDoorIt
set_option maxRecDepth 100000
set_option maxHeartbeats 25600000
set_option linter.unusedVariables false
namespace Go.Proofs.YtcajifelbldjnaaGreatDoor
open Go.RowKit F
abbrev rpD : K.Rp := ⟨1000000, 1000, 100000, 100⟩
theorem rpD_ok : K.rpOk rpD = true := by decide
theorem tot_small : ∀ n : Nat, n ≤ 20000 → K.totR rpD n ≤ 1000 * n
 | 0, _ => by rw [K.totR_zero]; decide
 | n + 1, h => by
  rw [K.totR_more];have h1 := tot_small n (by omega);have h2 := (K.spA_bd rpD_ok (k := n / 2) (by omega)).1;have h2 : 1000 ≤ K.spA rpD (n / 2) := h2
  have h3 : Int.tdiv 1000000 (K.spA rpD (n / 2)) ≤ 1000 := by
   rw [Int.tdiv_eq_ediv_of_nonneg (by decide)]
   have : (1000000 : Int) / K.spA rpD (n / 2) < 1001 := by
    apply (Int.ediv_lt_iff_lt_mul (by omega)).2
    omega
   omega
  have h4 : Int.tdiv rpD.c (K.spA rpD (n / 2)) ≤ 1000 := h3;omega
theorem run_small (n : Nat) : K.runT rpD n ≤ 1000 * n := by
 have h1 := tot_small 20000 (Nat.le_refl _);have h2 := tot_small (n % 20000) (by omega);have h3 : ((n / 20000 : Nat) : Int) * K.totR rpD 20000 ≤ (n / 20000 : Nat) * 20000000 := Int.mul_le_mul_of_nonneg_left (by omega) (by omega);unfold K.runT;omega
theorem tick_small {m : Int} (hm : 1 ≤ m ∧ m ≤ 1000000000) {p q : K.Pt} (hp : K.inS (rgD m) p = true) (hq : K.inS (rgD m) q = true) : 0 ≤ K.tick (rgD m) p q ∧ K.tick (rgD m) p q ≤ 100000000 := by
 refine ⟨(K.tick_bd (rgD_ok hm) hp hq).1, ?_⟩;have hs := K.steps_bd (rgD_ok hm) hp hq;have hg := K.gch_bd (rgD_ok hm) hp hq;have a := K.inS_iff.1 hp;have b := K.inS_iff.1 hq;have e : K.upB (K.gch p q) (rgD m).ps = (K.gch p q + 9) / 10 := by show (K.gch p q + 10 - 1) / 10 = _; congr 1; omega
 have hgm : K.gch p q ≤ 1000000 := by
  have a1 : (0 ≤ p.x ∧ p.x ≤ 1000000) ∧ (0 ≤ p.y ∧ p.y ≤ 1000000) ∧ (0 ≤ p.z ∧ p.z ≤ 200000) := a;have b1 : (0 ≤ q.x ∧ q.x ≤ 1000000) ∧ (0 ≤ q.y ∧ q.y ≤ 1000000) ∧ (0 ≤ q.z ∧ q.z ≤ 200000) := b;unfold K.gch K.chg;omega
 have hn : K.stepsN (rgD m) p q ≤ 100000 := by omega
 have := run_small (K.stepsN (rgD m) p q);have e2 : K.tick (rgD m) p q = K.runT rpD (K.stepsN (rgD m) p q) := rfl;rw [e2];generalize K.stepsN (rgD m) p q = n at *;generalize K.runT rpD n = x at *;clear e e2 hg a b hs hgm hp hq hm;omega
structure Frm (m : Int) (f : K.Fm) (tp : Bool) (pl T : Int) : Prop where
 hm : f.hm = true
 pt : K.inS (rgD m) f.pt = true
 tp : f.tp = tp
 pl : f.pl = pl
 tk : 0 ≤ f.tk ∧ f.tk ≤ T
theorem Frm.up {m : Int} {f : K.Fm} {tp : Bool} {pl T T' : Int} (h : Frm m f tp pl T) (hT : T ≤ T') : Frm m f tp pl T' := ⟨h.hm, h.pt, h.tp, h.pl, h.tk.1, Int.le_trans h.tk.2 hT⟩
theorem chkM_eq (c : Cd) : K.chkM (cmK c) = chkD c := rfl
theorem do_ok {r : K.Rg} {f : K.Fm} {c : Cd} (hc : chkD c = 0) (he : K.errC r f (cmK c) = none) (ht : f.tk + K.durC r f (cmK c) ≤ 1000000000000000) : K.doN r f (cmK c) = 0 ∧ K.doF r f (cmK c) = K.obF r f (cmK c) := by
 have h0 : K.obE r f (cmK c) = none := by
  unfold K.obE;rw [he];exact if_neg (by omega)
 have h1 : K.doN r f (cmK c) = 0 := by
  unfold K.doN;rw [chkM_eq, if_pos hc, h0]
  rfl
 exact ⟨h1, by unfold K.doF; rw [if_pos h1]⟩
theorem pt_in {m : Int} {q : S.Pt} (h : PtIn q) : K.inS (rgD m) (ptK q) = true := by
 unfold PtIn InP at h;refine K.inS_iff.2 ?_;show (0 ≤ q.x ∧ q.x ≤ 1000000) ∧ (0 ≤ q.y ∧ q.y ≤ 1000000) ∧ (0 ≤ q.z ∧ q.z ≤ 200000);omega
theorem do_go {m : Int} (hm : 1 ≤ m ∧ m ≤ 1000000000) {f : K.Fm} {tp : Bool} {pl T : Int} (h : Frm m f tp pl T) {q : S.Pt} (hq : PtIn q) (hT : T + 100000000 ≤ 1000000000000000) :
  K.doN (rgD m) f (cmK (goC q)) = 0 ∧ Frm m (K.doF (rgD m) f (cmK (goC q))) tp pl (T + 100000000) := by
 have hin := pt_in (m := m) hq;have ht := tick_small hm h.pt hin;have hk := h.tk
 have he : K.errC (rgD m) f (cmK (goC q)) = none := by
  show (if f.hm = false then some 3 else if K.inS (rgD m) (ptK q) = false then some 0 else none) = none;rw [if_neg (by rw [h.hm]; decide), if_neg (by rw [hin]; decide)]
 have hd : K.durC (rgD m) f (cmK (goC q)) = K.tick (rgD m) f.pt (ptK q) := by
  unfold K.durC;rw [if_neg (by simp), if_pos rfl]
  rfl
 obtain ⟨h1, h2⟩ := do_ok (chk_go hq) he (by rw [hd]; omega);refine ⟨h1, ?_⟩;rw [h2];refine ⟨h.hm, hin, h.tp, h.pl, ?_⟩;show 0 ≤ f.tk + K.durC (rgD m) f (cmK (goC q)) ∧ f.tk + K.durC (rgD m) f (cmK (goC q)) ≤ T + 100000000;rw [hd];omega
theorem do_home {m : Int} (hm : 1 ≤ m ∧ m ≤ 1000000000) : K.doN (rgD m) K.f0 (cmK (cd 1 0)) = 0 ∧ Frm m (K.doF (rgD m) K.f0 (cmK (cd 1 0))) false 0 100000000 := by
 have ht := tick_small hm (K.in_hi (rgD_ok hm)) (K.in_lo (rgD_ok hm))
 have hd : K.durC (rgD m) K.f0 (cmK (cd 1 0)) = K.tick (rgD m) (rgD m).hi (rgD m).lo := by
  unfold K.durC K.homeT;rw [if_pos rfl, if_neg (by simp [K.f0])]
 have h0 : K.f0.tk = 0 := rfl;obtain ⟨h1, h2⟩ := do_ok (r := rgD m) (f := K.f0) chk_1 rfl (by rw [hd]; omega);refine ⟨h1, ?_⟩;rw [h2];refine ⟨rfl, K.in_zero (rgD_ok hm), rfl, rfl, ?_⟩;show 0 ≤ K.f0.tk + K.durC (rgD m) K.f0 (cmK (cd 1 0)) ∧ K.f0.tk + K.durC (rgD m) K.f0 (cmK (cd 1 0)) ≤ 100000000;rw [hd];omega
theorem do_grab {m : Int} {f : K.Fm} {pl T : Int} (h : Frm m f false pl T) (hT : T ≤ 1000000000000000) : K.doN (rgD m) f (cmK (cd 4 0)) = 0 ∧ Frm m (K.doF (rgD m) f (cmK (cd 4 0))) true 0 T := by
 have hk := h.tk
 have he : K.errC (rgD m) f (cmK (cd 4 0)) = none := by
  show (if f.hm = false then some 3 else if f.tp = true then some 5 else none) = none;rw [if_neg (by rw [h.hm]; decide), if_neg (by rw [h.tp]; decide)]
 obtain ⟨h1, h2⟩ := do_ok chk_4 he (by show f.tk + 0 ≤ _; omega);refine ⟨h1, ?_⟩;rw [h2];exact ⟨h.hm, h.pt, rfl, rfl, h.tk⟩
theorem do_eject {m : Int} {f : K.Fm} {pl T : Int} (h : Frm m f true pl T) (hT : T ≤ 1000000000000000) : K.doN (rgD m) f (cmK (cd 5 0)) = 0 ∧ Frm m (K.doF (rgD m) f (cmK (cd 5 0))) false 0 T := by
 have hk := h.tk
 have he : K.errC (rgD m) f (cmK (cd 5 0)) = none := by
  show (if f.hm = false then some 3 else if f.tp = false then some 4 else none) = none;rw [if_neg (by rw [h.hm]; decide), if_neg (by rw [h.tp]; decide)]
 obtain ⟨h1, h2⟩ := do_ok chk_5 he (by show f.tk + 0 ≤ _; omega);refine ⟨h1, ?_⟩;rw [h2];exact ⟨h.hm, h.pt, rfl, rfl, h.tk⟩
theorem do_plug {m : Int} {f : K.Fm} {pl T v : Int} (h : Frm m f true pl T) (hm : m ≤ 1000000000) (hp : 0 ≤ pl ∧ pl ≤ 1000000000) (hv : 0 ≤ v ∧ v ≤ m) (hT : T + 2000000 ≤ 1000000000000000) : K.doN (rgD m) f (cmK (cd 3 v)) = 0 ∧ Frm m (K.doF (rgD m) f (cmK (cd 3 v))) true v (T + 2000000) := by
 have hk := h.tk
 have he : K.errC (rgD m) f (cmK (cd 3 v)) = none := by
  show (if f.hm = false then some 3 else if f.tp = false then some 4 else if (rgD m).mo < v then some 6 else none) = none;have : ¬ (rgD m).mo < v := by show ¬ m < v; omega
  rw [if_neg (by rw [h.hm]; decide), if_neg (by rw [h.tp]; decide), if_neg this]
 have hd : K.durC (rgD m) f (cmK (cd 3 v)) = K.upB (K.chg pl v) 1000 := by rw [← h.pl]; rfl
 have hb : 0 ≤ K.upB (K.chg pl v) 1000 ∧ K.upB (K.chg pl v) 1000 ≤ 2000000 := by
  unfold K.upB K.chg;omega
 obtain ⟨h1, h2⟩ := do_ok (chk_v (.inl rfl) (by omega)) he (by rw [hd]; omega);refine ⟨h1, ?_⟩;rw [h2];refine ⟨h.hm, h.pt, h.tp, rfl, ?_⟩;show 0 ≤ f.tk + K.durC (rgD m) f (cmK (cd 3 v)) ∧ f.tk + K.durC (rgD m) f (cmK (cd 3 v)) ≤ T + 2000000;rw [hd];omega
theorem do_set {m : Int} {f : K.Fm} {tp : Bool} {pl T k v : Int} (h : Frm m f tp pl T) (hk : k = 6 ∨ k = 8) (hv : 0 ≤ v ∧ v ≤ 1000000000) (hT : T ≤ 1000000000000000) : K.doN (rgD m) f (cmK (cd k v)) = 0 ∧ Frm m (K.doF (rgD m) f (cmK (cd k v))) tp pl T := by
 have hk2 := h.tk
 rcases hk with rfl | rfl
 ·obtain ⟨h1, h2⟩ := do_ok (r := rgD m) (f := f) (chk_v (k := 6) (.inr (.inl rfl)) hv) rfl (by show f.tk + 0 ≤ _; omega)
  refine ⟨h1, ?_⟩;rw [h2];exact ⟨h.hm, h.pt, h.tp, h.pl, h.tk⟩
 ·obtain ⟨h1, h2⟩ := do_ok (r := rgD m) (f := f) (chk_v (k := 8) (.inr (.inr (.inr rfl))) hv) rfl (by show f.tk + 0 ≤ _; omega)
  refine ⟨h1, ?_⟩;rw [h2];exact ⟨h.hm, h.pt, h.tp, h.pl, h.tk⟩
theorem do_rest {m : Int} {f : K.Fm} {tp : Bool} {pl T t : Int} (h : Frm m f tp pl T) (ht : 0 ≤ t ∧ t ≤ 1000000000) (hT : T + 1000 * t ≤ 1000000000000000) : K.doN (rgD m) f (cmK (cd 7 t)) = 0 ∧ Frm m (K.doF (rgD m) f (cmK (cd 7 t))) tp pl (T + 1000 * t) := by
 have hk := h.tk
 have hd : K.durC (rgD m) f (cmK (cd 7 t)) = 1000 * t := by
  show K.upB (t * 1000000) 1000 = _;unfold K.upB;omega
 obtain ⟨h1, h2⟩ := do_ok (r := rgD m) (f := f) (chk_v (k := 7) (.inr (.inr (.inl rfl))) ht) rfl (by rw [hd]; omega);refine ⟨h1, ?_⟩;rw [h2];refine ⟨h.hm, h.pt, h.tp, h.pl, ?_⟩;show 0 ≤ f.tk + K.durC (rgD m) f (cmK (cd 7 t)) ∧ f.tk + K.durC (rgD m) f (cmK (cd 7 t)) ≤ T + 1000 * t;rw [hd];omega
theorem run_nil (r : K.Rg) (f : K.Fm) (k : Nat) : K.runC r f k [] = (f, k, 0) := rfl
theorem run_cons {r : K.Rg} {f : K.Fm} {k : Nat} {c : Cd} {l : List Cd} (h : K.doN r f (cmK c) = 0) : K.runC r f k ((c :: l).map cmK) = K.runC r (K.doF r f (cmK c)) (k + 1) (l.map cmK) := by
 rw [List.map_cons];exact if_pos h
theorem run_app {r : K.Rg} : ∀ (a b : List Cd) (f f' : K.Fm) (k n : Nat), K.runC r f k (a.map cmK) = (f', n, 0) → K.runC r f k ((a ++ b).map cmK) = K.runC r f' n (b.map cmK)
 | [], b, f, f', k, n, h => by
  simp only [List.map_nil, run_nil, Prod.mk.injEq, and_true] at h;rw [List.nil_append, h.1, h.2]
 | c :: a, b, f, f', k, n, h => by
  by_cases h1 : K.doN r f (cmK c) = 0
  ·rw [run_cons h1] at h
   rw [List.cons_append, run_cons h1];exact run_app a b _ f' (k + 1) n h
  ·have : K.runC r f k ((c :: a).map cmK) = (f, k, K.doN r f (cmK c)) := by rw [List.map_cons]; exact if_neg h1
   rw [this] at h;simp only [Prod.mk.injEq] at h;exact absurd h.2.2 h1
theorem run_work {m : Int} (hm : 1 ≤ m ∧ m ≤ 1000000000) {f : K.Fm} {tp tp' : Bool} {pl pl' T D : Int} (h : Frm m f tp pl T) {q : S.Pt} (hq : PtIn q) {c : Cd} (hD : 0 ≤ D) (hT : T + 300000000 + D ≤ 1000000000000000)
  (hc : ∀ g T', Frm m g tp pl T' → T' + D ≤ 1000000000000000 → K.doN (rgD m) g (cmK c) = 0 ∧ Frm m (K.doF (rgD m) g (cmK c)) tp' pl' (T' + D)) (k : Nat) :
  ∃ f', K.runC (rgD m) f k ((workC q c).map cmK) = (f', k + 4, 0) ∧ Frm m f' tp' pl' (T + 300000000 + D) := by
 obtain ⟨a1, b1⟩ := do_go hm h (ptIn_up hq) (by omega);obtain ⟨a2, b2⟩ := do_go hm b1 hq (by omega);obtain ⟨a3, b3⟩ := hc _ _ b2 (by omega);obtain ⟨a4, b4⟩ := do_go hm b3 (ptIn_up hq) (by omega);refine ⟨_, ?_, b4.up (by omega)⟩;unfold workC;rw [run_cons a1, run_cons a2, run_cons a3, run_cons a4]
 rfl
theorem run_rest {m : Int} {f : K.Fm} {tp : Bool} {pl T t : Int} (h : Frm m f tp pl T) (ht : 0 ≤ t ∧ t ≤ 1000000000) (hT : T + 1000 * t ≤ 1000000000000000) (k : Nat) :
  ∃ f', K.runC (rgD m) f k ((restC t).map cmK) = (f', k + (restC t).length, 0) ∧ Frm m f' tp pl (T + 1000 * t) := by
 unfold restC
 split
 ·obtain ⟨a1, b1⟩ := do_rest h ht hT
  exact ⟨_, by rw [run_cons a1]; rfl, b1⟩
 ·exact ⟨f, rfl, h.up (by omega)⟩
theorem run_chunk {l : List Sit} {ts bins : List Plc} {pt : Plc → S.Pt} {m : Int} (hm : 1 ≤ m ∧ m ≤ 1000000000) (hd : dchk l = 0) (hpt : ∀ p, PtIn (pt p)) (htm : tipM l ≤ m) {st : Sta} {s : Cst} {a : Acn} {t : Sta} (hr : Rl l st s) (hk : DoK l st a t) (hmt : May l t)
  (h1 : (stepC ts bins pt s a).2 = 0) (hh : (stepC ts bins pt s a).1.held = tot t.held) {f : K.Fm} {T : Int} (hf : Frm m f st.tip s.held T) (hT : T + 400000000 + 1000 * (t.clock - st.clock) ≤ 1000000000000000) (k : Nat) :
  ∃ f', K.runC (rgD m) f k ((chunkC ts bins pt s a).map cmK) = (f', k + (chunkC ts bins pt s a).length, 0) ∧ Frm m f' t.tip (stepC ts bins pt s a).1.held (T + 400000000 + 1000 * (t.clock - st.clock)) := by
 have hin := held_in hd hr.may;have hin2 := held_in hd hmt;have h0h := hr.held
 cases hk using DoK.elim with
 | fill k5 he ti us cl =>
  have e1 : chunkC ts bins pt s a = [] := by unfold chunkC; simp [k5]
  have e2 : (stepC ts bins pt s a).1.held = s.held := by unfold stepC; simp [k5]
  rw [e1, e2, ti];exact ⟨f, rfl, hf.up (by omega)⟩
 | tip k6 hz he ti ul us cl =>
  have e1 : chunkC ts bins pt s a = workC (pt (ts.getD s.used plc0)) (cd 4 0) := by unfold chunkC; simp [k6]
  have e2 : (stepC ts bins pt s a).1.held = s.held := by unfold stepC; simp [k6]
  have hs0 : s.held = 0 := by rw [h0h, hin.2.2.2 hz]; rfl
  rw [hz] at hf
  obtain ⟨f', q1, q2⟩ := run_work (tp' := true) (pl' := 0) (D := 0) hm hf (hpt (ts.getD s.used plc0)) (c := cd 4 0) (Int.le_refl _) (by omega) (fun g T' hg hT' => by
   obtain ⟨x1, x2⟩ := do_grab hg (by omega)
   exact ⟨x1, x2.up (by omega)⟩) k
  rw [e1, e2, ti, hs0];exact ⟨f', q1, q2.up (by omega)⟩
 | drop k7 hz he ti us cl =>
  cases bins with
  | nil => unfold stepC at h1; simp [k7] at h1
  | cons b r =>
   have e1 : chunkC ts (b :: r) pt s a = workC (pt b) (cd 5 0) := by unfold chunkC; simp [k7]
   have e2 : (stepC ts (b :: r) pt s a).1.held = 0 := by unfold stepC; simp [k7]
   rw [hz] at hf
   obtain ⟨f', q1, q2⟩ := run_work (tp' := false) (pl' := 0) (D := 0) hm hf (hpt b) (c := cd 5 0) (Int.le_refl _) (by omega) (fun g T' hg hT' => by
    obtain ⟨x1, x2⟩ := do_eject hg (by omega)
    exact ⟨x1, x2.up (by omega)⟩) k
   rw [e1, e2, ti];exact ⟨f', q1, q2.up (by omega)⟩
 | draw k8 hz wl v0 he ti us cl =>
  have e1 : chunkC ts bins pt s a = workC (pt a.pl) (cd 3 (s.held + a.vol)) := by unfold chunkC; simp [k8]
  have e2 : (stepC ts bins pt s a).1.held = s.held + a.vol := by unfold stepC; simp [k8]
  have hle := hin2.2.2.1 ti;rw [e2] at hh;rw [hz] at hf;obtain ⟨f', q1, q2⟩ := run_work (tp' := true) (pl' := s.held + a.vol) (D := 2000000) hm hf (hpt a.pl) (c := cd 3 (s.held + a.vol)) (by decide) (by omega) (fun g T' hg hT' => do_plug hg hm.2 (by omega) (by omega) hT') k;rw [e1, e2, ti];exact ⟨f', q1, q2.up (by omega)⟩
 | put k9 hz wl v0 he ti us cl =>
  have e1 : chunkC ts bins pt s a = workC (pt a.pl) (cd 3 (s.held + -a.vol)) := by unfold chunkC; simp [k9]
  have e2 : (stepC ts bins pt s a).1.held = s.held + -a.vol := by unfold stepC; simp [k9]
  have hle := hin2.2.2.1 ti;rw [e2] at hh;rw [hz] at hf;obtain ⟨f', q1, q2⟩ := run_work (tp' := true) (pl' := s.held + -a.vol) (D := 2000000) hm hf (hpt a.pl) (c := cd 3 (s.held + -a.vol)) (by decide) (by omega) (fun g T' hg hT' => do_plug hg hm.2 (by omega) (by omega) hT') k;rw [e1, e2, ti];exact ⟨f', q1, q2.up (by omega)⟩
 | warm k11 vr he ti us cl =>
  have e1 : chunkC ts bins pt s a = [cd 6 a.value] := by unfold chunkC; simp [k11]
  have e2 : (stepC ts bins pt s a).1.held = s.held := by unfold stepC; simp [k11]
  obtain ⟨x1, x2⟩ := do_set (k := 6) hf (.inl rfl) vr (by omega);rw [e1, e2, ti];exact ⟨_, by rw [run_cons x1]; rfl, x2.up (by omega)⟩
 | pass kk tr he ti us cl =>
  have e1 : chunkC ts bins pt s a = restC a.time := by unfold chunkC; rcases kk with kk | kk <;> simp [kk]
  have e2 : (stepC ts bins pt s a).1.held = s.held := by unfold stepC; rcases kk with kk | kk <;> simp [kk]
  obtain ⟨f', q1, q2⟩ := run_rest hf tr (by omega) k;rw [e1, e2, ti];exact ⟨f', q1, q2.up (by omega)⟩
 | shake k13 vr tr he ti us cl =>
  have e1 : chunkC ts bins pt s a = [cd 8 a.value] ++ restC a.time ++ [cd 8 0] := by unfold chunkC; simp [k13]
  have e2 : (stepC ts bins pt s a).1.held = s.held := by unfold stepC; simp [k13]
  obtain ⟨x1, x2⟩ := do_set (k := 8) hf (.inr rfl) vr (by omega);obtain ⟨f', q1, q2⟩ := run_rest x2 tr (by omega) (k + 1);obtain ⟨y1, y2⟩ := do_set (k := 8) (v := 0) q2 (.inr rfl) (by decide) (by omega);rw [e1, e2, ti];refine ⟨_, ?_, y2.up (by omega)⟩;have z1 : K.runC (rgD m) f k (([cd 8 a.value] : List Cd).map cmK) = (K.doF (rgD m) f (cmK (cd 8 a.value)), k + 1, 0) := by rw [run_cons x1]; rfl
  rw [List.append_assoc, run_app _ _ _ _ _ _ z1, run_app _ _ _ _ _ _ q1, run_cons y1, List.map_nil, run_nil];simp only [List.length_append, List.length_cons, List.length_nil]
  congr 2
  omega
theorem run_start {m : Int} (hm : 1 ≤ m ∧ m ≤ 1000000000) : ∃ f, K.runC (rgD m) K.f0 0 (cst0.cs.map cmK) = (f, 2, 0) ∧ Frm m f false 0 200000000 := by
 obtain ⟨a1, b1⟩ := do_home hm;obtain ⟨a2, b2⟩ := do_go hm b1 (q := ⟨0, 0, 200000⟩) (by unfold PtIn InP; simp only; omega) (by decide);refine ⟨_, ?_, b2.up (by decide)⟩;show K.runC _ _ _ (([cd 1 0, goC ⟨0, 0, 200000⟩] : List Cd).map cmK) = _;rw [run_cons a1, run_cons a2]
 rfl
theorem comp_run {l ls : List Sit} {m : Int} (hm : 1 ≤ m ∧ m ≤ 1000000000) (hd : dchk l = 0) (hst : ∀ s ∈ ls, StOk s) (htm : tipM l ≤ m) {acs : List Acn} (hn : acs.length ≤ 1048576) (hr : (runR l acs).2.2 = 0) (hc : (compL (tipsL l) (floorB ls) (ptQ ls) cst0 0 acs).2.2 = 0) :
  ∃ f, K.runC (rgD m) K.f0 0 ((compL (tipsL l) (floorB ls) (ptQ ls) cst0 0 acs).1.cs.map cmK) = (f, (compL (tipsL l) (floorB ls) (ptQ ls) cst0 0 acs).1.cs.length, 0) := by
 obtain ⟨st', h, _⟩ := comp_ind (ts := tipsL l) (bins := floorB ls) (pt := ptQ ls) hd
  (I := fun A st s => A.length ≤ 1048576 → ∃ f, K.runC (rgD m) K.f0 0 (s.cs.map cmK) = (f, s.cs.length, 0) ∧ Frm m f st.tip s.held (200000000 + 400000000 * (A.length : Int) + 1000 * st.clock))
  (fun A st s a h hrl h0 h1 hk hA => by
   rw [List.length_append, List.length_cons, List.length_nil] at hA;have hr2 := hrl.step hd h0 h1;obtain ⟨f, q1, q2⟩ := h (by omega);have c1 := hrl.may.clock;have c2 := hr2.may.clock;obtain ⟨f', q3, q4⟩ := run_chunk (ts := tipsL l) (bins := floorB ls) hm hd (fun p => ptQ_in hst p) htm hrl hk hr2.may h1 hr2.held q2 (by omega) s.cs.length;refine ⟨f', ?_, q4.up (by simp only [List.length_append, List.length_cons, List.length_nil]; omega)⟩
   rw [step_chunk, run_app _ _ _ _ _ _ q1, q3, List.length_append])
  acs [] sta0 cst0 0 (fun _ => by
   obtain ⟨f, q1, q2⟩ := run_start hm
   exact ⟨f, q1, q2.up (by simp)⟩) (Rl.start l) (run_ok hd hr) hc
 obtain ⟨f, q1, _⟩ := h (by simpa using hn);exact ⟨f, q1⟩
end Go.Proofs.YtcajifelbldjnaaGreatDoor
namespace Go.Proofs.YtcajifelbldjnaaGreatDoor
open Go.RowKit Go.Maps
def tmL : List Sit → Int
 | [] => 1
 | s :: r => if s.ware.kind = 2 then s.ware.cap else tmL r
theorem Compile_all (ao : Option Addr) (cap : Nat) (l : List Sit) (aoA : Option Addr) (capA : Nat) (acs : List Acn) (w : World) (hD : Dk w ao cap l) (hl : l.length ≤ 9223372036854775807) (hA : Acs w aoA acs) (hla : acs.length ≤ 10000000) :
  Calls Tryz.prog 6 #[.slice ao l.length cap, .slice aoA acs.length capA] w fun e w' => ∃ ls aoC nC capC, (dchk l = 0 → (runR l acs).2.2 = 0 → ls.Perm l ∧ ls.Pairwise fun x y => x.slot ≤ y.slot) ∧ e = .returned (.tuple #[.slice aoC nC capC, .int .i64 ((compR l ls acs).2.1 : Int), .int .i64 (compR l ls acs).2.2]) ∧ OwnR encK w' w.heap.size (.slice aoC nC capC) (compR l ls acs).1 ∧ bw w w' := by
 by_cases hd : dchk l = 0
 ·by_cases hr : (runR l acs).2.2 = 0
  ·refine (compile_ok ao cap l aoA capA acs w hD hA hla hd hr).mono ?_
   rintro e w' ⟨ls, aoC, nC, capC, h1, h1b, h2, h3, h4⟩;exact ⟨ls, aoC, nC, capC, fun _ _ => ⟨h1, h1b⟩, h2, h3, h4⟩
  ·refine (compile_err2 ao cap l aoA capA acs w hD hA hla hd hr).mono ?_
   rintro e w' ⟨rfl, h⟩;have e1 : compR l l acs = ([], (runR l acs).2.1, (runR l acs).2.2) := by unfold compR; rw [if_neg (by simp [hd]), if_pos hr]
   exact ⟨l, none, 0, 0, fun _ h => absurd h hr, by rw [e1], by rw [e1]; exact OwnR.nil _ _ _, h⟩
 ·refine (compile_err1 ao cap l aoA capA acs w hD hl hd).mono ?_
  rintro e w' ⟨rfl, h⟩;have e1 : compR l l acs = ([], 0, dchk l) := by unfold compR; rw [if_pos hd]
  exact ⟨l, none, 0, 0, fun h => absurd h hd, by rw [e1]; rfl, by rw [e1]; exact OwnR.nil _ _ _, h⟩
theorem compR_nil (ls : List Sit) : compR [] ls [] = (cst0.cs, 0, 0) := rfl
theorem compR_cases (l ls : List Sit) (acs : List Acn) : ((compR l ls acs).2.2 ≠ 0 ∧ (compR l ls acs).1 = []) ∨ ((compR l ls acs).2.2 = 0 ∧ dchk l = 0 ∧ (runR l acs).2.2 = 0 ∧ (compL (tipsL l) (floorB ls) (ptQ ls) cst0 0 acs).2.2 = 0 ∧ (compR l ls acs).1 = (compL (tipsL l) (floorB ls) (ptQ ls) cst0 0 acs).1.cs) := by
 unfold compR
 split
 ·rename_i h; exact .inl ⟨h, rfl⟩
 ·rename_i h
  split
  ·rename_i h2; exact .inl ⟨h2, rfl⟩
  ·rename_i h2
   split
   ·rename_i h3; exact .inr ⟨rfl, Classical.not_not.1 h, Classical.not_not.1 h2, h3, rfl⟩
   ·rename_i h3; exact .inl ⟨h3, rfl⟩
theorem step_len (ts bins : List Plc) (pt : Plc → S.Pt) (s : Cst) (a : Acn) : (stepC ts bins pt s a).1.cs.length ≤ s.cs.length + 4 := by
 have hr : ∀ t, (restC t).length ≤ 1 := fun t => by unfold restC; split <;> simp
 have := hr a.time;unfold stepC
 repeat' split
 all_goals simp only [List.length_append, workC, List.length_cons, List.length_nil]
 all_goals omega
theorem comp_len (ts bins : List Plc) (pt : Plc → S.Pt) : ∀ (acs : List Acn) (s : Cst) (k : Nat), (compL ts bins pt s k acs).1.cs.length ≤ s.cs.length + 4 * acs.length
 | [], s, k => Nat.le_refl _
 | a :: r, s, k => by
  simp only [compL];have h1 := step_len ts bins pt s a
  split
  ·have := comp_len ts bins pt r (stepC ts bins pt s a).1 (k + 1)
   rw [List.length_cons];omega
  ·simp only [List.length_cons]; omega
theorem compR_len (l ls : List Sit) (acs : List Acn) : (compR l ls acs).1.length ≤ 2 + 4 * acs.length := by
 unfold compR;have := comp_len (tipsL l) (floorB ls) (ptQ ls) acs cst0 0;have e : cst0.cs.length = 2 := rfl;rw [e] at this
 split
 ·simp
 ·split
  ·simp
  ·split
   ·exact this
   ·simp
structure Told (l ls : List Sit) (acs : List Acn) (cs : List Cd) (f : K.Fm) : Prop where
 dk : dchk l = 0
 perm : ls.Perm l
 sorted : ls.Pairwise fun x y => x.slot ≤ y.slot
 run : (runR l acs).2.2 = 0
 comp : ∃ n, compR l ls acs = (cs, n, 0)
 most : 1 ≤ tmL ls ∧ tmL ls ≤ 1000000000
 firm : K.runC (rgD (tmL ls)) K.f0 0 (cs.map cmK) = (f, cs.length, 0)
 few : cs.length ≤ 100000000
end Go.Proofs.YtcajifelbldjnaaGreatDoor
namespace Go.Proofs.YtcajifelbldjnaaGreatDoor
open Go.RowKit F
theorem tmL_cases : ∀ {ls : List Sit}, (ls.Pairwise fun x y => x.slot ≤ y.slot) → (tmL ls = 1 ∧ ∀ s ∈ ls, s.ware.kind ≠ 2) ∨ ∃ s ∈ ls, s.ware.kind = 2 ∧ tmL ls = s.ware.cap ∧ ∀ t ∈ ls, t.ware.kind = 2 → s.slot ≤ t.slot
 | [], _ => .inl ⟨rfl, fun s hs => by cases hs⟩
 | a :: r, h => by
  obtain ⟨h1, h2⟩ := List.pairwise_cons.1 h
  by_cases ha : a.ware.kind = 2
  ·refine .inr ⟨a, List.mem_cons_self .., ha, if_pos ha, fun t ht _ => ?_⟩
   rcases List.mem_cons.1 ht with rfl | ht
   ·exact Int.le_refl _
   ·exact h1 t ht
  ·have e : tmL (a :: r) = tmL r := if_neg ha
   rcases tmL_cases h2 with ⟨g1, g2⟩ | ⟨s, hs, g1, g2, g3⟩
   ·refine .inl ⟨e.trans g1, fun s hs => ?_⟩
    rcases List.mem_cons.1 hs with rfl | hs
    ·exact ha
    ·exact g2 s hs
   ·refine .inr ⟨s, List.mem_cons_of_mem _ hs, g1, e.trans g2, fun t ht hk => ?_⟩
    rcases List.mem_cons.1 ht with rfl | ht
    ·exact absurd hk ha
    ·exact g3 t ht hk
theorem cap_rack {a : Wr} (h : chk a = 0) (hk : a.kind = 2) : 1 ≤ a.cap ∧ a.cap ≤ 1000000000 := by
 have h1 := (chk_in h).2.2.2.2.1;simp only [rangeOk, Bool.and_eq_true] at h1;have h2 := h1.2;simp only [List.all_cons, List.all_nil, Bool.and_true, inR_iff] at h2;have h3 : 1 ≤ loC a := by unfold loC; rw [hk]; decide
 have h4 : hiC a ≤ 1000000000 := by unfold hiC; split <;> decide
 omega
theorem tm_of {l ls : List Sit} (hd : dchk l = 0) (hp : ls.Perm l) (hpw : ls.Pairwise fun x y => x.slot ≤ y.slot) : (1 ≤ tmL ls ∧ tmL ls ≤ 1000000000) ∧ tipM l ≤ tmL ls := by
 have e := layL_tipM hd
 rcases tmL_cases hpw with ⟨g1, g2⟩ | ⟨s, hs, g1, g2, g3⟩
 ·rcases layL_is l (fun s hs => (dchk_ware hd hs).2.2) with ⟨k1, _⟩ | ⟨t, ht, k1, _⟩
  ·rw [k1] at e
   simp only at e;omega
  ·exact absurd k1 (g2 t (hp.mem_iff.2 ht))
 ·have hc := cap_rack (dchk_ware hd (hp.mem_iff.1 hs)).1 g1
  rcases layL_is l (fun s hs => (dchk_ware hd hs).2.2) with ⟨k1, _⟩ | ⟨t, ht, k1, k2, k3⟩
  ·rw [k1] at e
   simp only at e;omega
  ·have e1 := g3 t (hp.mem_iff.2 ht) k1
   have e2 := k3 s (hp.mem_iff.1 hs) g1;have e3 : s = t := slots_one hd (hp.mem_iff.1 hs) ht (by omega);subst e3;rw [k2] at e;simp only at e;omega
theorem told_of {l ls : List Sit} {acs : List Acn} (hok : ∀ s ∈ l, SOk s) (hn : acs.length ≤ 1048576) (hpp : dchk l = 0 → (runR l acs).2.2 = 0 → ls.Perm l ∧ ls.Pairwise fun x y => x.slot ≤ y.slot) (h : (compR l ls acs).2.2 = 0) :
  ∃ f q p, Told l ls acs (compR l ls acs).1 f ∧ (∀ c ∈ (compR l ls acs).1, chkD c = 0) ∧ watchL (floorG ls) ⟨⟨0, 0, 0⟩, 0, []⟩ 0 (compR l ls acs).1 = (⟨q, p, acs.flatMap seenA⟩, (compR l ls acs).1.length, 0) := by
 rcases compR_cases l ls acs with ⟨h1, _⟩ | ⟨_, hd, hr, hc, e⟩
 ·exact absurd h h1
 ·obtain ⟨hp, hpw⟩ := hpp hd hr
  have hst := st_ok hd hok;have hst2 : ∀ s ∈ ls, StOk s := fun s hs => hst s (hp.mem_iff.1 hs);obtain ⟨hm, htm⟩ := tm_of hd hp hpw;obtain ⟨f, hf⟩ := comp_run hm hd hst2 htm hn hr hc;obtain ⟨q, p, hw⟩ := comp_watch hd hst hp hr hc;have hfo := comp_form hd hst2 hr hc;have hlen := compR_len l ls acs;rw [← e] at hf hw hfo;exact ⟨f, q, p, ⟨hd, hp, hpw, hr, ⟨(compR l ls acs).2.1, by rw [← h]⟩, hm, hf, by omega⟩, hfo, hw⟩
end Go.Proofs.YtcajifelbldjnaaGreatDoor
namespace Go.Proofs.YtcajifelbldjnaaGreatDoor
open Go.RowKit Go.Maps
theorem dk_nil (w : World) : Dk w none 0 [] := ⟨.inl rfl, Nat.le_refl _, fun s hs => by cases hs⟩
theorem acs_nil (w : World) : Acs w none [] := ⟨.inl rfl, fun s hs => by cases hs⟩
end Go.Proofs.YtcajifelbldjnaaGreatDoor
namespace Go.Proofs.YtcajifelbldjnaaGreatDoor.C
open Go.RowKit Go.Maps
theorem rdK_at {w : World} {ao : Option Addr} {xs : List Cd} (h : RdR encK w ao xs) {k : Nat} (hk : k < xs.length) : ∃ g off, ao = some ⟨g, off, none⟩ ∧ g < w.heap.size ∧ ∀ W, Below w.heap.size w W → ∀ a, a = xs[k]'hk → W.cell? ⟨g, off + k * 5, none⟩ = some (.int .i64 a.k) ∧ W.cell? ⟨g, off + k * 5 + 1, none⟩ = some (.int .i64 a.x) ∧ W.cell? ⟨g, off + k * 5 + 2, none⟩ = some (.int .i64 a.y) ∧ W.cell? ⟨g, off + k * 5 + 3, none⟩ = some (.int .i64 a.z) ∧ W.cell? ⟨g, off + k * 5 + 4, none⟩ = some (.int .i64 a.v) := by
 rcases h with h | ⟨g, off, e, hg, hc⟩
 ·subst h; simp at hk
 ·refine ⟨g, off, e, hg, fun W hW a ha => ?_⟩
  subst ha
  exact ⟨cell_later hW (hc k hk 0 (by decide)), cell_later hW (hc k hk 1 (by decide)), cell_later hW (hc k hk 2 (by decide)), cell_later hW (hc k hk 3 (by decide)), cell_later hW (hc k hk 4 (by decide))⟩
theorem step_more (ts bins : List Plc) (pt : Plc → S.Pt) (s : Cst) (a : Acn) : s.cs.length ≤ (stepC ts bins pt s a).1.cs.length := by
 unfold stepC
 repeat' split
 all_goals simp only [List.length_append, workC, List.length_cons, List.length_nil]
 all_goals omega
theorem comp_more (ts bins : List Plc) (pt : Plc → S.Pt) : ∀ (acs : List Acn) (s : Cst) (k : Nat), s.cs.length ≤ (compL ts bins pt s k acs).1.cs.length
 | [], s, k => Nat.le_refl _
 | a :: r, s, k => by
  simp only [compL]
  have h1 := step_more ts bins pt s a
  split
  ·exact Nat.le_trans h1 (comp_more ts bins pt r (stepC ts bins pt s a).1 (k + 1))
  ·first | exact h1 | exact Nat.le_refl _
theorem compR_ne {l ls : List Sit} {acs : List Acn} (h : (compR l ls acs).2.2 = 0) : (compR l ls acs).1 ≠ [] := by
 rcases compR_cases l ls acs with ⟨h1, _⟩ | ⟨_, _, _, _, e⟩
 ·exact absurd h h1
 ·rw [e]
  intro e2
  have := comp_more (tipsL l) (floorB ls) (ptQ ls) acs cst0 0
  rw [e2] at this
  exact absurd this (by decide)
def zdV (g off g2 off2 k m cap cap2 : Nat) (a : Cd) (d : Nat) (v : Value) (w : World) : Prop :=
 match d with
 | 83 => v = .slice (some ⟨g, off, none⟩) m cap
 | 84 => v = .int .i64 (k : Int)
 | 85 => v = .pointer (some ⟨g, off + k * 5, none⟩)
 | 86 => v = .agg #[.int .i64 a.k, .int .i64 a.x, .int .i64 a.y, .int .i64 a.z, .int .i64 a.v]
 | 87 => v = .slice (some ⟨g2, off2, none⟩) m cap2
 | 88 => v = .int .i64 (k : Int)
 | 89 => v = .pointer (some ⟨g2, off2 + k * 5, none⟩)
 | 90 => v = .agg #[.int .i64 a.k, .int .i64 a.x, .int .i64 a.y, .int .i64 a.z, .int .i64 a.v]
 | 91 => v = .bool false
 | _ => True
theorem zdV_mono (g off g2 off2 k m cap cap2 : Nat) (a : Cd) (d : Nat) (v : Value) (w w' : World) (h : zdV g off g2 off2 k m cap cap2 a d v w) (hb : Below w.heap.size w w') : zdV g off g2 off2 k m cap cap2 a d v w' := by
 unfold zdV at h ⊢
 split <;> simp only [] at h <;> first | exact h | (obtain ⟨x, h1, h2⟩ := h; exact ⟨x, h1, h2.later hb⟩)
theorem cellCodes_any (ao : Option Addr) (cap : Nat) (l : List Sit) (aoA : Option Addr) (capA : Nat) (acs : List Acn) (w : World) (hT : Tall w) (hD : Dk w ao cap l) (hl : l.length ≤ 9223372036854775807) (hA : Acs w aoA acs) (hla : acs.length ≤ 1048576) :
  Calls Tryz.prog 5 #[.slice ao l.length cap, .slice aoA acs.length capA] w fun e w' => e = .returned (.bool true) ∧ Below w.heap.size w w' := by
 have HC0 := hid (Compile_all none 0 [] none 0 [] w (dk_nil w) (by decide) (acs_nil w) (by decide))
 have HT : Hid (Tall w) := hT
 have HD : Hid (Dk w ao cap l) := hD
 have HAC : Hid (Acs w aoA acs) := hA
 have HLA : Hid (acs.length ≤ 1048576) := hla
 have HLL : Hid (l.length ≤ 9223372036854775807) := hl
 clear hT hD hA hla hl
 go_enter Tryz.func5, Tryz.ntmps5
 go_wp2_with fail
 refine Calls.mono HC0.out ?_
 rintro e w1 ⟨ls0, aoC0, nC0, capC0, -, rfl, ho, hb⟩
 rw [compR_nil] at ho ⊢
 have hn2 : nC0 = 2 := own_len ho
 subst hn2
 have HB1 : Hid (Below w.heap.size w w1) := hb
 have HC := hid (Compile_all ao cap l aoA capA acs w1 (HD.out.next HB1.out) HLL.out (HAC.out.next HB1.out) (by have := HLA.out; omega))
 clear ho hb HC0
 go_wp2_with fail
 refine Calls.mono HC.out ?_
 rintro e w2 ⟨ls, aoC, nC, capC, hp, rfl, ho, hb⟩
 have hnC := own_len ho
 have HB2 : Hid (Below w.heap.size w w2) := HB1.out.trans (hb.mono HB1.out.size)
 clear hb HB1 HC
 by_cases h0 : (compR l ls acs).2.2 = 0
 ·obtain ⟨f, q, p, ht, hfo, hw⟩ := told_of HD.out.ok HLA.out hp h0
  have hne := compR_ne h0
  clear hp ht hw
  generalize compR l ls acs = R at hfo h0 ho hnC hne ⊢
  obtain ⟨cs, m, er⟩ := R
  simp only at hfo h0 ho hnC hne ⊢
  subst h0 hnC
  have HRC : Hid (RdR encK w2 aoC cs) := rd_own goodK ho
  have HT2 : Hid (Tall w2) := HT.out.later HB2.out
  have HFO : Hid (∀ c ∈ cs, chkD c = 0) := hfo
  have HNE : Hid (cs ≠ []) := hne
  clear hfo ho hne HT
  by_cases hbig : 100000 < cs.length
  ·have HP := hid (program_big aoC capC cs.length w2 hbig)
   have hbi : (100000 : Int) < (cs.length : Int) := by omega
   go_wp2_with fail
   refine Calls.mono HP.out ?_
   rintro e w3 ⟨rfl, hb3⟩
   have HB3 : Hid (Below w.heap.size w w3) := HB2.out.trans (hb3.mono HB2.out.size)
   clear hb3 HP
   go_wp2
   go_ret
   exact ⟨rfl, HB3.out⟩
  ·have hsm : cs.length ≤ 100000 := by omega
   have hsi : (cs.length : Int) ≤ 100000 := by omega
   have HSM : Hid (cs.length ≤ 100000) := hsm
   have HP := hid (program_any aoC capC cs w2 HRC.out hsm HFO.out HT2.out)
   go_wp2_with fail
   refine Calls.mono HP.out ?_
   rintro e w3 ⟨rfl, hb3⟩
   have HB3 : Hid (Below w2.heap.size w2 w3) := hb3
   have HRD := hid (read_any cs w3 HNE.out hsm HFO.out (HT2.out.later hb3))
   generalize progL 1 cs = T at *
   clear hb3 HP
   go_wp2_with fail
   refine Calls.mono HRD.out ?_
   rintro e w4 ⟨aoX, nX, capX, rfl, hoX, hb4⟩
   have hnX := own_len hoX
   subst hnX
   have HB4 : Hid (Below w2.heap.size w2 w4) := HB3.out.trans (hb4.mono HB3.out.size)
   have HRX : Hid (RdR encK w4 aoX cs) := rd_own goodK hoX
   have HRY : Hid (RdR encK w4 aoC cs) := HRC.out.next goodK HB4.out
   clear hb4 hoX HRD HB3 HRC HFO HNE HT2
   go_wp2_with fail
   go_loopw [15] (fun i wr => ∃ k : Nat, k ≤ cs.length ∧ i = .int .i64 (k : Int) ∧ Below w4.heap.size w4 wr) (fun i _ => cs.length - (intOf i).toNat)
   case atStart => exact ⟨0, Nat.zero_le _, rfl, brf⟩
   case round =>
    obtain ⟨k, hk, rfl, hb⟩ := hrel
    have HB : Hid (Below w4.heap.size w4 wr) := hb
    clear hb
    by_cases hlt : k < cs.length
    ·obtain ⟨g, off, rfl, hg, hc⟩ := rdK_at (HRX.out.next goodK HB.out) hlt
     obtain ⟨g2, off2, rfl, hg2, hc2⟩ := rdK_at (HRY.out.next goodK HB.out) hlt
     obtain ⟨a, ha⟩ : ∃ a, a = cs[k]'hlt := ⟨_, rfl⟩
     have H1 : Hid (∀ W, Below wr.heap.size wr W → W.cell? ⟨g, off + k * 5, none⟩ = some (.int .i64 a.k) ∧ W.cell? ⟨g, off + k * 5 + 1, none⟩ = some (.int .i64 a.x) ∧ W.cell? ⟨g, off + k * 5 + 2, none⟩ = some (.int .i64 a.y) ∧ W.cell? ⟨g, off + k * 5 + 3, none⟩ = some (.int .i64 a.z) ∧ W.cell? ⟨g, off + k * 5 + 4, none⟩ = some (.int .i64 a.v)) := fun W hW => hc W hW a ha
     have H2 : Hid (∀ W, Below wr.heap.size wr W → W.cell? ⟨g2, off2 + k * 5, none⟩ = some (.int .i64 a.k) ∧ W.cell? ⟨g2, off2 + k * 5 + 1, none⟩ = some (.int .i64 a.x) ∧ W.cell? ⟨g2, off2 + k * 5 + 2, none⟩ = some (.int .i64 a.y) ∧ W.cell? ⟨g2, off2 + k * 5 + 3, none⟩ = some (.int .i64 a.z) ∧ W.cell? ⟨g2, off2 + k * 5 + 4, none⟩ = some (.int .i64 a.v)) := fun W hW => hc2 W hW a ha
     have GH1 : Hid (g < wr.heap.size) := hg
     have GH2 : Hid (g2 < wr.heap.size) := hg2
     have hki : (k : Int) < (cs.length : Int) := by omega
     have HKI : Hid ((k : Int) < (cs.length : Int)) := hki
     clear hc hc2 hg hg2 ha
     go_wp2_with fail
     rename_i hkk
     have HKK := (show Hid _ from hkk)
     clear hkk
     refine region_seq 9 [zf,zf,zf,zf,zf,zf,zf,zf,zf,zf,zf,zf,zf,zf,zf,zf,zf,zf,zf,zf,zf,zf,zf,zf,zf,zf,zf,zf,zf,zf,zf,zf,zf,zf,zf,zf,zf,zf,zf,zf,zf,zf,zf,zf,zf,zf,zf,zf,zf,zf,zf,zf,zf,zf,zf,zf,zf,zf,zf,zf,zf,zf,zf,zf,zf,zf,zf,zf,zf,zf,zf,zf,zf,zf,zf,zf,zf,zf,zf,zf,zf,zf,zf,zt,zt,zt,zt,zt,zt,zt,zt,zt]
      [(83, [], none), (84, [], none), (85, [83, 84], none), (86, [85], none), (87, [], none), (88, [], none), (89, [87, 88], none), (90, [89], none), (91, [86, 90], none)]
      (zdV g off g2 off2 k cs.length capX capC a) (by kernel_rfl) (by kernel_rfl) (by kernel_rfl) (by kernel_rfl) (by kernel_rfl) (by decide) (zdV_mono g off g2 off2 k cs.length capX capC a) ?_ ?_
     ·refine ⟨?_, ?_, ?_, ?_, ?_, ?_, ?_, ?_, ?_, trivial⟩
      ·intro f w1 hb _ K hK
       simp only [over, overL, Nat.reduceAdd]
       go_simp
       exact hK _ _ ⟨_, rfl, by simp only [over, overL, Nat.reduceAdd]; rfl, brf⟩
      ·intro f w1 hb _ K hK
       simp only [over, overL, Nat.reduceAdd]
       go_simp
       exact hK _ _ ⟨_, rfl, by simp only [over, overL, Nat.reduceAdd]; rfl, brf⟩
      ·rintro f w1 hb ⟨(h83 : f 83 = _), (h84 : f 84 = _), _⟩ K hK
       have hki := HKI.out
       simp only [over, overL, Nat.reduceAdd, h83, h84]
       go_simp
       exact hK _ _ ⟨_, rfl, by simp only [over, overL, Nat.reduceAdd, h83, h84]; rfl, brf⟩
      ·rintro f w1 hb ⟨(h85 : f 85 = _), _⟩ K hK
       have hbk := H1.out w1 hb
       obtain ⟨q0, q1, q2, q3, q4⟩ := hbk
       have hgl := Nat.lt_of_lt_of_le GH1.out hb.size
       simp only [over, overL, Nat.reduceAdd, h85]
       go_simp
       exact hK _ _ ⟨_, rfl, by simp only [over, overL, Nat.reduceAdd, h85]; rfl, brf⟩
      ·intro f w1 hb _ K hK
       simp only [over, overL, Nat.reduceAdd]
       go_simp
       exact hK _ _ ⟨_, rfl, by simp only [over, overL, Nat.reduceAdd]; rfl, brf⟩
      ·intro f w1 hb _ K hK
       simp only [over, overL, Nat.reduceAdd]
       go_simp
       exact hK _ _ ⟨_, rfl, by simp only [over, overL, Nat.reduceAdd]; rfl, brf⟩
      ·rintro f w1 hb ⟨(h87 : f 87 = _), (h88 : f 88 = _), _⟩ K hK
       have hki := HKI.out
       simp only [over, overL, Nat.reduceAdd, h87, h88]
       go_simp
       exact hK _ _ ⟨_, rfl, by simp only [over, overL, Nat.reduceAdd, h87, h88]; rfl, brf⟩
      ·rintro f w1 hb ⟨(h89 : f 89 = _), _⟩ K hK
       have hbk := H2.out w1 hb
       obtain ⟨q0, q1, q2, q3, q4⟩ := hbk
       have hgl := Nat.lt_of_lt_of_le GH2.out hb.size
       simp only [over, overL, Nat.reduceAdd, h89]
       go_simp
       exact hK _ _ ⟨_, rfl, by simp only [over, overL, Nat.reduceAdd, h89]; rfl, brf⟩
      ·rintro f w1 hb ⟨(h86 : f 86 = _), (h90 : f 90 = _), _⟩ K hK
       simp only [over, overL, Nat.reduceAdd, h86, h90]
       go_simp
       exact hK _ _ ⟨_, rfl, by simp only [over, overL, Nat.reduceAdd, h86, h90]; rfl, brf⟩
     intro f w5 hb5 hv
     have h91 : f 91 = .bool false := hv.2.2.2.2.2.2.2.2.1
     have HB5 : Hid (Below w4.heap.size w4 w5) := HB.out.trans (hb5.mono HB.out.size)
     simp only [over_eq, overL, h91, Nat.reduceAdd]
     clear hv h91 hb5 H1 H2 GH1 GH2
     refine HKK.out _ _ ?_
     clear HKK
     go_wp2
     go_roundw
     case rel => exact ⟨k + 1, by omega, by go_num, HB5.out⟩
     case measure => simp [intOf]; omega
    ·go_wp2
     go_ret
     exact ⟨rfl, HB2.out.trans ((HB4.out.trans (HB.out.mono HB4.out.size)).mono HB2.out.size)⟩
 ·have hcs : (compR l ls acs).1 = [] := by
   rcases compR_cases l ls acs with ⟨_, h⟩ | ⟨h, _⟩
   ·exact h
   ·exact absurd h h0
  clear hp
  generalize compR l ls acs = R at *
  obtain ⟨cs, m, er⟩ := R
  simp only at hcs h0 hnC ⊢
  subst hcs
  simp only [List.length_nil] at hnC
  subst hnC
  have hne : (er == 0) = false := by simp [h0]
  clear ho
  go_wp2
  go_ret
  exact ⟨rfl, HB2.out⟩
end Go.Proofs.YtcajifelbldjnaaGreatDoor.C
