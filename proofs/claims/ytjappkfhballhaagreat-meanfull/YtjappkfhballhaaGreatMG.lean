/- deck.Tips walked. -/
import Derived.Test.YtjappkfhballhaaGreatMR
namespace Go.Proofs.YtjappkfhballhaaGreat
open Go.RowKit

def tipsTo (l : List Sit) (n : Nat) : List Plc := (List.range n).flatMap fun (k : Nat) => rackIn l ((k : Int) + 1)
theorem tipsTo_succ (l : List Sit) (n : Nat) : tipsTo l (n + 1) = tipsTo l n ++ rackIn l ((n : Int) + 1) := by simp [tipsTo, List.range_succ]
theorem tipsTo_all (l : List Sit) : tipsTo l 12 = tipsL l := rfl
theorem rackIn_length {l : List Sit} (hd : dchk l = 0) (n : Int) : (rackIn l n).length ≤ 384 := by
  unfold rackIn
  split
  · rename_i s hs
    split
    · have hc := (dchk_ware hd (seatOf_in hs).1).1
      have h1 := inR_iff.1 (chk_in hc).2.2.1
      have h2 := inR_iff.1 (chk_in hc).2.2.2.1
      rw [List.length_map, spots_length]
      have : s.ware.rows.toNat * s.ware.cols.toNat ≤ 16 * 24 := Nat.mul_le_mul (by omega) (by omega)
      omega
    · simp
  · simp
theorem tipsTo_length {l : List Sit} (hd : dchk l = 0) (n : Nat) : (tipsTo l n).length ≤ 384 * n := by
  induction n with
  | zero => simp [tipsTo]
  | succ n ih =>
    have := rackIn_length hd ((n : Int) + 1)
    rw [tipsTo_succ, List.length_append]
    omega
def spotP (n : Int) (p : Nat × Nat) : Plc := (n, (p.1 : Int), (p.2 : Int))
theorem rackIn_no {l : List Sit} {n : Int} (h : seatOf l n = none) : rackIn l n = [] := by simp [rackIn, h]
theorem rackIn_kind {l : List Sit} {n : Int} {s : Sit} (h : seatOf l n = some s) (hk : s.ware.kind ≠ 2) : rackIn l n = [] := by simp [rackIn, h, hk]
theorem rackIn_yes {l : List Sit} {n : Int} {s : Sit} {R C : Nat} (h : seatOf l n = some s) (hk : s.ware.kind = 2) (hR : s.ware.rows = R) (hC : s.ware.cols = C) : rackIn l n = (spots R (C * R)).map (spotP n) := by
  simp [rackIn, h, hk, hR, hC, Nat.mul_comm, spotP]
theorem take_map_succ {α β : Type} (f : α → β) {l : List α} {k : Nat} (h : k < l.length) : (l.map f).take (k + 1) = (l.map f).take k ++ [f (l[k]'h)] := by
  rw [List.take_succ_eq_append_getElem (by simpa using h)]
  simp
theorem sep_of {α β : Type} {c : Enc α} {d : Enc β} {w w' : World} {base base' : Nat} {v u : Value} {ps : List α} {qs : List β} (hv : OwnR c w base v ps) (hu : OwnR d w' base' u qs) (h : w.heap.size ≤ base') : v.ownBlock = none ∨ u.ownBlock ≠ v.ownBlock := by
  cases e : v.ownBlock with
  | none => exact .inl rfl
  | some g =>
    refine .inr fun e2 => ?_
    have h1 := (World.ownsRow.lt hv g e).2
    have h2 := (World.ownsRow.lt hu g e2).1
    omega
theorem sep_kept {β : Type} {d : Enc β} {w w' : World} {base' : Nat} {v v' u : Value} {qs : List β} (hs : v.ownBlock = none ∨ u.ownBlock ≠ v.ownBlock) (hu : OwnR d w base' u qs) (hg : w.grownBy w' v.ownBlock) (hl : v'.ownBlock = v.ownBlock ∨ v'.ownBlock = some w.heap.size) :
    OwnR d w' base' u qs ∧ (v'.ownBlock = none ∨ u.ownBlock ≠ v'.ownBlock) := by
  constructor
  · refine hu.kept hg ?_
    rcases hs with h | h
    · cases e : u.ownBlock with
      | none => exact .inl rfl
      | some g => exact .inr (by rw [h]; simp)
    · exact .inr h
  · rcases hl with h | h
    · rw [h]; exact hs
    · rw [h]
      refine .inr fun e => ?_
      have := (World.ownsRow.lt hu _ e).2
      omega
abbrev encS : Enc (Nat × Nat) := ⟨29, 2, fun p => [.int .i64 p.1, .int .i64 p.2]⟩
theorem goodS : Good encS := ⟨fun _ => rfl, fun x u hu => by simp at hu; rcases hu with rfl | rfl <;> rfl⟩
theorem own_spots {w : World} {base : Nat} {v : Value} {ps : List (Nat × Nat)} (h : Own w base v ps) : OwnR encS w base v ps := h

set_option maxHeartbeats 3200000 in
set_option maxRecDepth 100000 in
theorem tips_any (ao : Option Addr) (cap : Nat) (l : List Sit) (w : World) (hD : Dk w ao cap l) (hd : dchk l = 0) :
    Calls Tryz.prog 27 #[.slice ao l.length cap] w fun e w' => ∃ v, e = .returned (.tuple #[v, .int .i64 0]) ∧ OwnR encP w' w.heap.size v (tipsL l) ∧ Below w.heap.size w w' := by
  have HD : Hid (Dk w ao cap l) := hD
  have HDC : Hid (dchk l = 0) := hd
  have hl := dk_len hd
  have HC : Hid (Calls Tryz.prog 25 #[.slice ao l.length cap] w fun e w' => e = .returned (.int .i64 0) ∧ Below w.heap.size w w') := by
    have := dk_check ao cap l w hD (by omega)
    rw [hd] at this
    exact this
  clear hD hd
  go_enter Tryz.func27, Tryz.ntmps27
  go_wp2_with fail
  refine Calls.mono HC.out ?_
  rintro e w1 ⟨rfl, hb⟩
  have HB1 : Hid (Below w.heap.size w w1) := hb
  clear hb HC
  go_wp2_with fail
  go_loopw [5, 6] (fun v i wo => ∃ n : Nat, n ≤ 12 ∧ i = .int .i64 ((n : Int) + 1) ∧ OwnR encP wo w.heap.size v (tipsTo l n) ∧ Below w.heap.size w wo) (fun _ i _ => 13 - (intOf i).toNat)
  case atStart => exact ⟨0, by omega, rfl, OwnR.nil _ _ _, HB1.out⟩
  case round =>
    obtain ⟨n, hn, rfl, hown, hbo⟩ := hrel
    obtain ⟨wo, rfl⟩ : ∃ wo, wo = wr := ⟨_, rfl⟩
    obtain ⟨aoT, nT, capT, rfl⟩ := hown.form
    have HO : Hid (OwnR encP wo w.heap.size (.slice aoT nT capT) (tipsTo l n)) := hown
    have HBO : Hid (Below w.heap.size w wo) := hbo
    clear hown hbo HB1
    by_cases hlt : n < 12
    · have hlt2 : ((n : Int) + 1) ≤ 12 := by omega
      have hs := HBO.out.size
      have HFD : Hid (Sts (wo.alloc (.cells #[.int .i64 ((n : Int) + 1)] 3)) ao l) := (HD.out.sts.next HBO.out).next ((Below.refl _ _).alloc (Nat.le_refl _) _)
      have HT : Hid (TestsS 91 #[ptr wo.heap.size] (fun a => a.slot == (n : Int) + 1) (wo.alloc (.cells #[.int .i64 ((n : Int) + 1)] 3))) := fun a W hW => standing_test a _ wo.heap.size W (by have := hW.size; simp at this; omega) (cell_later hW (by go_simp))
      rcases find_cases l ((n : Int) + 1) with ⟨h1, h2⟩ | ⟨k, hk, h1, h2, h3⟩
      · have HR : Hid (tipsTo l (n + 1) = tipsTo l n) := by show _ = _; rw [tipsTo_succ, rackIn_no h1, List.append_nil]
        have HF : Hid (Calls Tryz.prog 64 #[.slice ao l.length cap, .func (.func 91) #[] #[ptr wo.heap.size]] (wo.alloc (.cells #[.int .i64 ((n : Int) + 1)] 3)) fun e w' => e = .returned (.tuple #[sv zSt, .int .i64 5]) ∧ Below (wo.alloc (.cells #[.int .i64 ((n : Int) + 1)] 3)).heap.size (wo.alloc (.cells #[.int .i64 ((n : Int) + 1)] 3)) w') := find_none 91 #[ptr wo.heap.size] (fun a => a.slot == (n : Int) + 1) ao cap l _ en91 HT.out HFD.out (by omega) h2
        clear HT HFD h1 h2
        go_wp2_with fail
        refine (standingIn_any ((n : Int) + 1) wo).mono ?_
        rintro e w2 ⟨rfl, rfl⟩
        go_wp2_with fail
        refine Calls.mono HF.out ?_
        rintro e w3 ⟨rfl, hb3⟩
        have HB3 : Hid (Below w.heap.size w w3) := (HBO.out.alloc hs _).trans (hb3.mono (by simp; omega))
        have HO3 : Hid (OwnR encP w3 w.heap.size (.slice aoT nT capT) (tipsTo l n)) := (HO.out.alloc _).later hb3
        clear hb3 HF
        go_wp2
        go_roundw
        case rel => exact ⟨n + 1, by omega, by go_num, by rw [HR.out]; exact HO3.out.alloc _, HB3.out.alloc HB3.out.size _⟩
        case measure => simp [intOf]; omega
      · obtain ⟨s, hs'⟩ : ∃ s, s = l[k]'hk := ⟨_, rfl⟩
        rw [← hs'] at h1 h2
        have HF : Hid (Calls Tryz.prog 64 #[.slice ao l.length cap, .func (.func 91) #[] #[ptr wo.heap.size]] (wo.alloc (.cells #[.int .i64 ((n : Int) + 1)] 3)) fun e w' => e = .returned (.tuple #[sv s, .int .i64 0]) ∧ Below (wo.alloc (.cells #[.int .i64 ((n : Int) + 1)] 3)).heap.size (wo.alloc (.cells #[.int .i64 ((n : Int) + 1)] 3)) w') := find_hit 91 #[ptr wo.heap.size] (fun a => a.slot == (n : Int) + 1) ao cap l _ en91 HT.out HFD.out (by omega) k hk s hs' (by simp [h2]) h3
        have HSO : Hid (SOk s) := by show SOk s; rw [hs']; exact HD.out.ok _ (List.getElem_mem hk)
        have HCH : Hid (chk s.ware = 0) := by show _ = _; rw [hs']; exact (dchk_ware HDC.out (List.getElem_mem hk)).1
        clear HT HFD h2 h3 hs'
        by_cases hkd : s.ware.kind = 2
        rotate_left
        · have hkd2 : (s.ware.kind != 2) = true := by simp [hkd]
          have HR : Hid (tipsTo l (n + 1) = tipsTo l n) := by show _ = _; rw [tipsTo_succ, rackIn_kind h1 hkd, List.append_nil]
          clear h1 hkd
          go_wp2_with fail
          refine (standingIn_any ((n : Int) + 1) wo).mono ?_
          rintro e w2 ⟨rfl, rfl⟩
          go_wp2_with fail
          refine Calls.mono HF.out ?_
          rintro e w3 ⟨rfl, hb3⟩
          have HB3 : Hid (Below w.heap.size w w3) := (HBO.out.alloc hs _).trans (hb3.mono (by simp; omega))
          have HO3 : Hid (OwnR encP w3 w.heap.size (.slice aoT nT capT) (tipsTo l n)) := (HO.out.alloc _).later hb3
          clear hb3 HF
          go_wp2
          go_roundw
          case rel => exact ⟨n + 1, by omega, by go_num, by rw [HR.out]; exact HO3.out.alloc _, HB3.out.alloc HB3.out.size _⟩
          case measure => simp [intOf]; omega
        · have hkd2 : (s.ware.kind != 2) = false := by simp [hkd]
          obtain ⟨R, hR⟩ : ∃ R : Nat, s.ware.rows = R := ⟨s.ware.rows.toNat, by have := inR_iff.1 (chk_in HCH.out).2.2.1; omega⟩
          obtain ⟨C, hC⟩ : ∃ C : Nat, s.ware.cols = C := ⟨s.ware.cols.toNat, by have := inR_iff.1 (chk_in HCH.out).2.2.2.1; omega⟩
          have HR : Hid (tipsTo l (n + 1) = tipsTo l n ++ (spots R (C * R)).map (spotP ((n : Int) + 1))) := by show _ = _; rw [tipsTo_succ, rackIn_yes h1 hkd hR hC]
          have HAll : Hid (∀ W, Calls Tryz.prog 66 #[wv s.ware] W fun e w' => ∃ v, e = .returned (.tuple #[v, .int .i64 0]) ∧ Own w' (W.heap.size + 1) v (spots R (C * R)) ∧ Below W.heap.size W w') := fun W => all_ok s.ware R C W HSO.out.1 HCH.out hR hC
          have HSM : Hid (C * R ≤ 384) := by
            show _ ≤ _
            have a1 := inR_iff.1 (chk_in HCH.out).2.2.1
            have a2 := inR_iff.1 (chk_in HCH.out).2.2.2.1
            have := Nat.mul_le_mul (show C ≤ 24 by omega) (show R ≤ 16 by omega)
            omega
          clear h1 hR hC hkd
          generalize hSP : spots R (C * R) = sps at *
          have HSL : Hid (sps.length ≤ 384) := by show _ ≤ _; rw [← hSP, spots_length]; exact HSM.out
          clear hSP HSM
          go_wp2_with fail
          refine (standingIn_any ((n : Int) + 1) wo).mono ?_
          rintro e w2 ⟨rfl, rfl⟩
          go_wp2_with fail
          refine Calls.mono HF.out ?_
          rintro e w3 ⟨rfl, hb3⟩
          have HB3 : Hid (Below w.heap.size w w3) := (HBO.out.alloc hs _).trans (hb3.mono (by simp; omega))
          have HO3 : Hid (OwnR encP w3 w.heap.size (.slice aoT nT capT) (tipsTo l n)) := (HO.out.alloc _).later hb3
          clear hb3 HF HO HBO
          go_wp2_with fail
          refine Calls.mono (HAll.out _) ?_
          rintro e w4 ⟨u, rfl, hu, hb4⟩
          have HB4 : Hid (Below w.heap.size w w4) := (HB3.out.alloc HB3.out.size _).trans (hb4.mono (by have := HB3.out.size; simp; omega))
          have HO4 : Hid (OwnR encP w4 w.heap.size (.slice aoT nT capT) (tipsTo l n)) := (HO3.out.alloc _).later hb4
          have HSep : Hid ((Value.slice aoT nT capT).ownBlock = none ∨ u.ownBlock ≠ (Value.slice aoT nT capT).ownBlock) := sep_of (HO3.out.alloc (sobj s)) (own_spots hu) (by simp)
          obtain ⟨aoS, capS, rfl⟩ := (own_spots hu).shape
          have HU : Hid (OwnR encS w4 0 (.slice aoS sps.length capS) sps) := (own_spots hu).base (Nat.zero_le _)
          clear hu hb4 HAll HO3 HB3
          go_wp2_with fail
          go_loopw [5, 45] (fun v i wi => ∃ r : Nat, r ≤ sps.length ∧ i = .int .i64 r ∧ OwnR encP wi w.heap.size v (tipsTo l n ++ (sps.map (spotP ((n : Int) + 1))).take r) ∧ OwnR encS wi 0 (.slice aoS sps.length capS) sps ∧ (v.ownBlock = none ∨ (Value.slice aoS sps.length capS).ownBlock ≠ v.ownBlock) ∧ Below w.heap.size w wi) (fun _ i _ => sps.length - (intOf i).toNat)
          case atStart => exact ⟨0, by omega, rfl, by simpa using HO4.out, HU.out, HSep.out, HB4.out⟩
          case round =>
            obtain ⟨r, hr, rfl, hown, hu, hsep, hbi⟩ := hrel
            obtain ⟨aoV, nV, capV, rfl⟩ := hown.form
            have HOi : Hid (OwnR encP wr w.heap.size (.slice aoV nV capV) (tipsTo l n ++ (sps.map (spotP ((n : Int) + 1))).take r)) := hown
            have HUi : Hid (OwnR encS wr 0 (.slice aoS sps.length capS) sps) := hu
            have HSi : Hid ((Value.slice aoV nV capV).ownBlock = none ∨ (Value.slice aoS sps.length capS).ownBlock ≠ (Value.slice aoV nV capV).ownBlock) := hsep
            have HBi : Hid (Below w.heap.size w wr) := hbi
            clear hown hu hsep hbi HO4 HU HSep HB4
            have hsl := HSL.out
            by_cases hrl : r < sps.length
            · rcases HUi.out.read goodS with ⟨e0, _⟩ | ⟨g, cap0, e0, _, _, hg, hc⟩
              · rw [e0] at hrl; simp at hrl
              injection e0 with e1 e2 e3
              subst e1
              have q0 := hc r hrl 0 (by decide)
              have q1 := hc r hrl 1 (by decide)
              have HTk : Hid ((sps.map (spotP ((n : Int) + 1))).take (r + 1) = (sps.map (spotP ((n : Int) + 1))).take r ++ [spotP ((n : Int) + 1) (sps[r]'hrl)]) := take_map_succ _ hrl
              generalize sps[r]'hrl = sp at *
              simp only [List.getElem?_cons_zero, List.getElem?_cons_succ, Nat.add_zero] at q0 q1
              clear hc e2 e3
              have hsz := HBi.out.size
              have hgn : g ≠ wr.heap.size := by omega
              have HLen : Hid ((tipsTo l n ++ (sps.map (spotP ((n : Int) + 1))).take r).length ≤ 1000000000) := by
                show _ ≤ _
                have a1 := tipsTo_length HDC.out n
                rw [List.length_append, List.length_take, List.length_map]
                have a2 := HSL.out
                omega
              go_wp2_with (at_builtin; refine wpList_append_row goodP Tryz.underlying55 infoP rfl (by decide) (by decide) _ rfl (.tmp 49) (.tmp 53) rfl w.heap.size (.slice aoV nV capV) (tipsTo l n ++ (sps.map (spotP ((n : Int) + 1))).take r) rfl ((HOi.out.alloc _).alloc _) (wr.heap.size + 1) (spotP ((n : Int) + 1) sp) rfl (fun j u hu => (Bk.new (wr.alloc _) _ 31 (wr.heap.size + 1) (by simp)).c j hu) HLen.out (by simp; omega) ?_; intro v' w5 ho hg' hloc)
              have HO5 : Hid (OwnR encP w5 w.heap.size v' (tipsTo l n ++ (sps.map (spotP ((n : Int) + 1))).take (r + 1))) := by show OwnR _ _ _ _ _; rw [HTk.out, ← List.append_assoc]; exact ho
              have HU5 := (show Hid _ from sep_kept HSi.out ((HUi.out.alloc _).alloc _) hg' hloc)
              have HB5 : Hid (Below w.heap.size w w5) := below_row ((HBi.out.alloc hsz _).alloc (by simp; omega) _) ((HOi.out.alloc _).alloc _) hg' (by simp; omega)
              clear ho hg' hloc
              go_roundw
              case rel => exact ⟨r + 1, by omega, by go_num, HO5.out, HU5.out.1, HU5.out.2, HB5.out⟩
              case measure => simp [intOf]; omega
            · have HE : Hid (r = sps.length) := by show _ = _; omega
              go_wp2
              go_roundw
              case rel =>
                refine ⟨n + 1, by omega, by go_num, ?_, HBi.out⟩
                have := HOi.out
                rw [HE.out, List.take_of_length_le (by simp)] at this
                rw [HR.out]
                exact this
              case measure => simp [intOf]; omega
    · have HE : Hid (n = 12) := by show _ = _; omega
      go_wp2
      go_ret2
      refine ⟨_, rfl, ?_, HBO.out⟩
      have := HO.out
      rw [HE.out, tipsTo_all] at this
      exact this
end Go.Proofs.YtjappkfhballhaaGreat
