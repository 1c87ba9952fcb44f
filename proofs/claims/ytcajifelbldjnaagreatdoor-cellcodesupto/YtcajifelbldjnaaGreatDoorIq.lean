import Derived.Test.YtcajifelbldjnaaGreatDoorIp
import Derived.Deep.MidRow
import Derived.Deep.WholeRow
import Derived.Test.YtcajifelbldjnaaGreatDoorIg
import Derived.Test.YtcajifelbldjnaaGreatDoorIm
set_option maxRecDepth 100000
set_option maxHeartbeats 25600000
set_option linter.unusedVariables false
namespace Go.Proofs.YtcajifelbldjnaaGreatDoor.K
open Go.RowKit Go.Maps
theorem setCell_id {w : World} {b k : Nat} {v : Value} (h : w.cell? ⟨b, k, none⟩ = some v) : w.setCell ⟨b, k, none⟩ v = w := by
 unfold World.cell? at h
 have e : (w.setCell ⟨b, k, none⟩ v).heap = w.heap := by
  unfold World.setCell
  apply Array.ext_getElem?
  intro i;simp only [Array.getElem?_modify]
  split
  ·rename_i e
   subst e
   cases hb : w.heap[b]? with
   | none => rfl
   | some o =>
    simp only [hb] at h
    cases o with
    | cells c t fz =>
     simp only [Option.isSome_none, Bool.false_eq_true, if_false] at h;simp only [Option.map_some, Option.isSome_none, Bool.false_eq_true, if_false]
     congr 2
     apply Array.ext_getElem?
     intro j;rw [Array.getElem?_setIfInBounds]
     split
     ·rename_i e2
      subst e2;rw [if_pos (Array.getElem?_eq_some_iff.1 h).1, h]
     ·rfl
    | _ => simp at h
  ·rfl
 calc w.setCell ⟨b, k, none⟩ v = { w with heap := (w.setCell ⟨b, k, none⟩ v).heap } := rfl
  _ = w := by rw [e]
theorem setCells_id {b : Nat} : ∀ (cs : List Value) (o : Nat) (w : World), (∀ k v, cs[k]? = some v → w.cell? ⟨b, o + k, none⟩ = some v) → w.setCells b o cs = w
 | [], _, _, _ => rfl
 | v :: vs, o, w, h => by
  show (w.setCell ⟨b, o, none⟩ v).setCells b (o + 1) vs = w;rw [setCell_id (show w.cell? ⟨b, o, none⟩ = some v from h 0 v rfl)];exact setCells_id vs (o + 1) w fun k u hu => by have := h (k + 1) u hu; rwa [Nat.add_assoc, Nat.add_comm 1 k]
theorem _root_.Go.Proofs.YtcajifelbldjnaaGreatDoor.Bk.stays {b : Nat} {cs : List Value} {w : World} (h : Bk b cs w) : w.setCells b 0 cs = w := setCells_id cs 0 w fun k v hv => by rw [Nat.zero_add]; exact (h.2 k v hv).1
end Go.Proofs.YtcajifelbldjnaaGreatDoor.K
namespace Go.Proofs.YtcajifelbldjnaaGreatDoor.K
open Go.RowKit
section
variable (P : Program) (Q : Exit → Act → World → Prop) (a : Act) (m : List Bool) (plan : GPlan) (V : Nat → List Value → World → Prop) (J : (Nat → Value) → World → Prop) (E : World → Prop)
end
section
variable {P : Program} {Q : Exit → Act → World → Prop} {a : Act} {m : List Bool} {plan : GPlan} {V : Nat → List Value → World → Prop} {J : (Nat → Value) → World → Prop} {E : World → Prop} {ops : Array Oper}
end
end Go.Proofs.YtcajifelbldjnaaGreatDoor.K
namespace Go.Proofs.YtcajifelbldjnaaGreatDoor.K
open Go.RowKit Go.Maps
section
variable {a : Nat → Addr} {n B M : Nat} {r : Rg} {f : Fm} {c : Cm} {w : World}
end
end Go.Proofs.YtcajifelbldjnaaGreatDoor.K
namespace Go.Proofs.YtcajifelbldjnaaGreatDoor.K
open Go.RowKit
end Go.Proofs.YtcajifelbldjnaaGreatDoor.K
namespace Go.Proofs.YtcajifelbldjnaaGreatDoor.K
open Go.RowKit Go.Maps
def runC (r : Rg) : Fm → Nat → List Cm → Fm × Nat × Int
 | f, k, [] => (f, k, 0)
 | f, k, c :: l => if doN r f c = 0 then runC r (doF r f c) (k + 1) l else (f, k, doN r f c)
end Go.Proofs.YtcajifelbldjnaaGreatDoor.K
namespace Go.Proofs.YtcajifelbldjnaaGreatDoor
open Go.RowKit F
abbrev cmK (c : Cd) : K.Cm := ⟨c.k, c.x, c.y, c.z, c.v⟩
abbrev ptK (q : S.Pt) : K.Pt := ⟨q.x, q.y, q.z⟩
def rgD (m : Int) : K.Rg := ⟨⟨0, 0, 0⟩, ⟨1000000, 1000000, 200000⟩, ⟨1000000, 1000, 100000, 100⟩, 10, m⟩
theorem rgD_ok {m : Int} (h : 1 ≤ m ∧ m ≤ 1000000000) : K.RgOk (rgD m) := ⟨by show (-10000000 : Int) ≤ 0 ∧ (0 : Int) ≤ 0 ∧ (0 : Int) ≤ 1000000 ∧ (1000000 : Int) ≤ 10000000; decide, by show (-10000000 : Int) ≤ 0 ∧ (0 : Int) ≤ 0 ∧ (0 : Int) ≤ 1000000 ∧ (1000000 : Int) ≤ 10000000; decide, by show (-10000000 : Int) ≤ 0 ∧ (0 : Int) ≤ 0 ∧ (0 : Int) ≤ 200000 ∧ (200000 : Int) ≤ 10000000; decide, by show K.rpOk ⟨1000000, 1000, 100000, 100⟩ = true; decide, by show (1 : Int) ≤ 10 ∧ (10 : Int) ≤ 100000; decide, h⟩
theorem chk_go {q : S.Pt} (h : PtIn q) : chkD (goC q) = 0 := by
 unfold PtIn InP at h;unfold chkD K.chkC;have h1 : K.inRg q.x q.y q.z 0 = true := K.inRg_iff.2 (by omega);rw [if_neg (by simp), if_neg (by rw [h1]; decide), if_neg (by simp [K.usedC, K.letW])]
theorem chk_v {k v : Int} (hk : k = 3 ∨ k = 6 ∨ k = 7 ∨ k = 8) (hv : 0 ≤ v ∧ v ≤ 1000000000) : chkD (cd k v) = 0 := by
 unfold chkD K.chkC;have h1 : K.inRg 0 0 0 v = true := K.inRg_iff.2 (by omega)
 rcases hk with rfl | rfl | rfl | rfl <;> (rw [if_neg (by simp), if_neg (by rw [h1]; decide), if_neg (by simp [K.usedC, K.letW])])
theorem chk_1 : chkD (cd 1 0) = 0 := by decide
theorem chk_4 : chkD (cd 4 0) = 0 := by decide
theorem chk_5 : chkD (cd 5 0) = 0 := by decide
theorem ptIn_up {q : S.Pt} (h : PtIn q) : PtIn (upC q) := by
 unfold PtIn InP at *;simp only;omega
theorem work_form {q : S.Pt} {c : Cd} (h : PtIn q) (hc : chkD c = 0) : ∀ x ∈ workC q c, chkD x = 0 := by
 intro x hx;unfold workC at hx;simp only [List.mem_cons, List.mem_nil_iff, or_false] at hx
 rcases hx with rfl | rfl | rfl | rfl
 ·exact chk_go (ptIn_up h)
 ·exact chk_go h
 ·exact hc
 ·exact chk_go (ptIn_up h)
theorem rest_form {t : Int} (h : 0 ≤ t ∧ t ≤ 1000000000) : ∀ x ∈ restC t, chkD x = 0 := by
 intro x hx;unfold restC at hx
 split at hx
 ·simp only [List.mem_cons, List.mem_nil_iff, or_false] at hx
  subst hx;exact chk_v (.inr (.inr (.inl rfl))) h
 ·cases hx
theorem chunk_form {l : List Sit} {ts bins : List Plc} {pt : Plc → S.Pt} (hd : dchk l = 0) (hpt : ∀ p, PtIn (pt p)) {st : Sta} {s : Cst} {a : Acn} {t : Sta} (hk : DoK l st a t) (hm : May l t) (ht : (stepC ts bins pt s a).1.held = tot t.held) : ∀ x ∈ chunkC ts bins pt s a, chkD x = 0 := by
 have hin := held_in hd hm;intro x hx;unfold chunkC at hx
 split at hx
 ·exact work_form (hpt _) chk_4 x hx
 ·split at hx
  ·split at hx
   ·cases hx
   ·exact work_form (hpt _) chk_5 x hx
  ·split at hx
   ·rename_i k
    have e : (stepC ts bins pt s a).1.held = s.held + a.vol := by unfold stepC; simp [k]
    rw [e] at ht;exact work_form (hpt _) (chk_v (.inl rfl) (by omega)) x hx
   ·split at hx
    ·rename_i k
     have e : (stepC ts bins pt s a).1.held = s.held + -a.vol := by unfold stepC; simp [k]
     rw [e] at ht;exact work_form (hpt _) (chk_v (.inl rfl) (by omega)) x hx
    ·split at hx
     ·rename_i k
      simp only [List.mem_cons, List.mem_nil_iff, or_false] at hx;subst hx
      cases hk using DoK.elim with
      | warm _ vr => exact chk_v (.inr (.inl rfl)) vr
      | pass kk => exact absurd k (by omega)
      | _ => exact absurd k (by omega)
     ·split at hx
      ·rename_i k
       cases hk using DoK.elim with
       | pass _ tr => exact rest_form tr x hx
       | _ => exact absurd k (by omega)
      ·split at hx
       ·rename_i k
        cases hk using DoK.elim with
        | shake _ vr tr =>
         rcases List.mem_append.1 hx with hx | hx
         ·rcases List.mem_append.1 hx with hx | hx
          ·simp only [List.mem_cons, List.mem_nil_iff, or_false] at hx
           subst hx;exact chk_v (.inr (.inr (.inr rfl))) vr
          ·exact rest_form tr x hx
         ·simp only [List.mem_cons, List.mem_nil_iff, or_false] at hx
          subst hx;exact chk_v (.inr (.inr (.inr rfl))) (by decide)
        | pass kk => exact absurd k (by omega)
        | _ => exact absurd k (by omega)
       ·cases hx
theorem comp_form {l ls : List Sit} (hd : dchk l = 0) (hst : ∀ s ∈ ls, StOk s) {acs : List Acn} (hr : (runR l acs).2.2 = 0) (hc : (compL (tipsL l) (floorB ls) (ptQ ls) cst0 0 acs).2.2 = 0) :
  ∀ c ∈ (compL (tipsL l) (floorB ls) (ptQ ls) cst0 0 acs).1.cs, chkD c = 0 := by
 obtain ⟨st', h, _⟩ := comp_ind (ts := tipsL l) (bins := floorB ls) (pt := ptQ ls) hd (I := fun _ _ s => ∀ c ∈ s.cs, chkD c = 0)
  (fun A st s a h hrl h0 h1 hk => by
   have hr2 := hrl.step hd h0 h1;intro c hcm;rw [step_chunk] at hcm
   rcases List.mem_append.1 hcm with hcm | hcm
   ·exact h c hcm
   ·exact chunk_form hd (fun p => ptQ_in hst p) hk hr2.may hr2.held c hcm)
  acs [] sta0 cst0 0 (by
   intro c hcm;simp only [cst0, List.mem_cons, List.mem_nil_iff, or_false] at hcm
   rcases hcm with rfl | rfl
   ·exact chk_1
   ·exact chk_go (by unfold PtIn InP; simp only; omega)) (Rl.start l) (run_ok hd hr) hc
 exact h
end Go.Proofs.YtcajifelbldjnaaGreatDoor
