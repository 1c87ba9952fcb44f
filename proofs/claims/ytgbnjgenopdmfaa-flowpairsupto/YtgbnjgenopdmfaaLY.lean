/- 'm[k] += v': the entry first, or the look-up; the entry once more is the same. -/
import Derived.Test.YtgbnjgenopdmfaaLH
namespace Go.Proofs.Ytgbnjgenopdmfaa
open Go.RowKit Go.Maps Go.ChangeMaps

set_option maxRecDepth 100000 in
/-- A map, its entry for a key made sure of, and written. -/
theorem WI.entryB {κ : Type} [DecidableEq κ] {c : KE κ} (hc : KLaw c) {t e : TypeId} (ht : Try.prog.underlying t = some (.map c.kt e)) (hz : ∀ w, (zeroValue e).run Try.prog w = .ok (.int .i64 0) w) {w : World} {b : Nat} {m : List (κ × Int)} (h : WI c w b m) {p : κ} (hp : c.ok p) (hl : m.length ≤ 100000000) :
    ∃ (st : Nat) (o1 : Obj), (∀ W : World, W.heap[b]? = w.heap[b]? → (Instr.mapEntry t (.map (some b)) (c.enc p)).run Try.prog W = .ok (.tuple #[.int .i64 ((atI m p).getD 0), goInt st]) (setBlock W b o1)) ∧
      (∀ W : World, W.heap[b]? = some o1 → (Instr.lookup t (.map (some b)) (c.enc p) false).run Try.prog W = .ok (.int .i64 ((atI m p).getD 0)) W) ∧
      (∀ (W : World) (v : Int), W.heap[b]? = some o1 → ∃ o2, (Instr.entryStore t (.map (some b)) (goInt st) (.int .i64 v)).run Try.prog W = .ok () (setBlock W b o2) ∧ WI c (setBlock W b o2) b (putI m p v)) ∧
      (∀ W : World, W.heap[b]? = some o1 → (Instr.mapEntry t (.map (some b)) (c.enc p)).run Try.prog W = .ok (.tuple #[.int .i64 ((atI m p).getD 0), goInt st]) (setBlock W b o1)) := by
  have hlook := h.look hc ht hz hp false
  have hput := fun v => h.put hc ht hp v hl
  obtain ⟨D, ⟨es, clock, hb, F, hsz, hD⟩, h2⟩ := h
  have hk := hc.key p hp
  have hlen : m.length < maxLen := by unfold maxLen; omega
  rcases hc.keyed.find w hk es.toList F.keys with ⟨h1, hno⟩ | ⟨j, e0, h1, h3, h4⟩
  · have hfind : ∀ W : World, (Instr.findKey c.kt (c.enc p) es.toList).run Try.prog W = .ok none W := fun W => by
      rcases hc.keyed.find W hk es.toList F.keys with ⟨h5, _⟩ | ⟨j, e0, _, h6, h7⟩
      · exact h5
      · exact absurd h7 (hno e0 (List.mem_of_getElem? h6))
    have hv0 : (atI m p).getD 0 = 0 := by
      have : (Instr.lookup t (.map (some b)) (c.enc p) false).run Try.prog w = .ok (.int .i64 0) w := by
        simp [Instr.lookup, run_underlying ht, MapKept.run_getObj_map hb, hc.keyed.check w _ hk, h1, hz, Result.andThen]
      rw [hlook] at this
      simpa using this
    have hks : ∀ x ∈ (es.push (⟨c.enc p, .int .i64 0, clock⟩ : MapEntry)).toList, ∃ l, keyOf Try.prog c.kt x.key = some l := fun x hx => by
      simp only [Array.toList_push, List.mem_append, List.mem_singleton] at hx
      rcases hx with hx | rfl
      · exact F.keys x hx
      · exact ⟨_, hk⟩
    have hf2 : ∀ W : World, (Instr.findKey c.kt (c.enc p) (es.push (⟨c.enc p, .int .i64 0, clock⟩ : MapEntry)).toList).run Try.prog W = .ok (some (es.size, .int .i64 0)) W := by
      intro W
      rcases hc.keyed.find W hk _ hks with ⟨_, h6⟩ | ⟨j, e0, h5, h6, h7⟩
      · exact absurd rfl (h6 ⟨c.enc p, .int .i64 0, clock⟩ (by simp))
      · rw [h5]
        rw [Array.toList_push] at h6
        by_cases hj : j < es.toList.length
        · rw [List.getElem?_append_left hj] at h6
          exact absurd h7 (hno e0 (List.mem_of_getElem? h6))
        · rw [List.getElem?_append_right (by omega)] at h6
          have h8 : j - es.toList.length = 0 := by
            cases h9 : j - es.toList.length with
            | zero => rfl
            | succ k => rw [h9] at h6; simp at h6
          rw [h8] at h6
          simp at h6
          have h9 : j = es.size := by simp at hj h8; omega
          rw [h9, ← h6]
    have hget : (es.push (⟨c.enc p, .int .i64 0, clock⟩ : MapEntry))[es.size]? = some ⟨c.enc p, .int .i64 0, clock⟩ := by simp
    have hsame : (es.push (⟨c.enc p, .int .i64 0, clock⟩ : MapEntry)).modify es.size (fun e => { e with key := c.enc p }) = es.push ⟨c.enc p, .int .i64 0, clock⟩ := by
      apply Array.ext'
      rw [Array.toList_modify, modify_eq_set _ _ _ _ (show (es.push (⟨c.enc p, .int .i64 0, clock⟩ : MapEntry)).toList[es.size]? = some ⟨c.enc p, .int .i64 0, clock⟩ by simp)]
      simp [Array.toList_push]
    refine ⟨clock, .map (es.push ⟨c.enc p, .int .i64 0, clock⟩) (clock + 1), fun W hW => ?_, fun W hW => ?_, fun W v hW => ?_, fun W hW => ?_⟩
    · have hb' := hW.trans hb
      simp [Instr.mapEntry, run_underlying ht, MapKept.run_getObj_map hb', hc.keyed.check W _ hk, hfind, hz, MapKept.run_setObj_map _ hb', Result.andThen, setBlock, hv0]
    · rw [hv0]
      exact look_found hc.keyed ht hk hW (hf2 W)
    · obtain ⟨w', hrun, hWI, _⟩ := hput v
      have hrun2 : (Instr.mapUpdate t (.map (some b)) (c.enc p) (.int .i64 v)).run Try.prog w = .ok () (setBlock w b (.map (es.push ⟨c.enc p, .int .i64 v, clock⟩) (clock + 1))) := by
        simp [Instr.mapUpdate, run_underlying ht, MapKept.run_getObj_map hb, hc.keyed.check w _ hk, h1, MapKept.run_setObj_map _ hb, Result.andThen, setBlock]
      rw [hrun] at hrun2
      injection hrun2 with _ e
      have hst : MapKept.Stamped (es.push ⟨c.enc p, .int .i64 0, clock⟩) (clock + 1) := MapKept.stamped_push F.stamped hno
      have hidx := findIdx_born hst (j := es.size) (e := ⟨c.enc p, .int .i64 0, clock⟩) (by simp)
      refine ⟨.map (es.push ⟨c.enc p, .int .i64 v, clock⟩) (clock + 1), ?_, ?_⟩
      · have hm : (es.push (⟨c.enc p, .int .i64 0, clock⟩ : MapEntry)).modify es.size (fun e => { e with val := .int .i64 v }) = es.push ⟨c.enc p, .int .i64 v, clock⟩ := by
          apply Array.ext'
          rw [Array.toList_modify, modify_eq_set _ _ _ _ (show (es.push (⟨c.enc p, .int .i64 0, clock⟩ : MapEntry)).toList[es.size]? = some ⟨c.enc p, .int .i64 0, clock⟩ by simp)]
          simp [Array.toList_push]
        have hs := store_found (t := t) (v := .int .i64 v) hW hidx
        rw [hm] at hs
        exact hs
      · refine hWI.same ?_
        rw [e, heap_setBlock_same hW, heap_setBlock_same hb]
    · have hf3 := hf2 W
      generalize es.push (⟨c.enc p, .int .i64 0, clock⟩ : MapEntry) = es1 at hf3 hget hsame hW ⊢
      simp [Instr.mapEntry, run_underlying ht, MapKept.run_getObj_map hW, hc.keyed.check W _ hk, hf3, hget, hc.keyed.stays W hk, MapKept.run_setObj_map _ hW, Result.andThen, setBlock, hsame, hv0]
  · have hj : es[j]? = some e0 := by simpa using h3
    have hfind : ∀ W : World, (Instr.findKey c.kt (c.enc p) es.toList).run Try.prog W = .ok (some (j, e0.val)) W := fun W => by
      rcases hc.keyed.find W hk es.toList F.keys with ⟨_, h5⟩ | ⟨j', e', h5, h6, h7⟩
      · exact absurd h4 (h5 e0 (List.mem_of_getElem? h3))
      · have hnd := F.stamped.2.2
        rw [List.nodup_iff_pairwise_ne, List.pairwise_map, List.pairwise_iff_getElem] at hnd
        obtain ⟨l1, g1⟩ := List.getElem?_eq_some_iff.1 h3
        obtain ⟨l2, g2⟩ := List.getElem?_eq_some_iff.1 h6
        have hjj : j = j' := by
          rcases Nat.lt_trichotomy j j' with hlt | heq | hgt
          · exact absurd (by rw [g1, g2, h4, h7]) (hnd j j' l1 l2 hlt)
          · exact heq
          · exact absurd (by rw [g1, g2, h4, h7]) (hnd j' j l2 l1 hgt)
        subst hjj
        rw [h3] at h6
        injection h6 with h6
        rw [h5, h6]
    have hv0 : e0.val = .int .i64 ((atI m p).getD 0) := by
      have : (Instr.lookup t (.map (some b)) (c.enc p) false).run Try.prog w = .ok e0.val w := by
        simp [Instr.lookup, run_underlying ht, MapKept.run_getObj_map hb, hc.keyed.check w _ hk, h1, Result.andThen]
      rw [hlook] at this
      injection this with this
      simpa using this.symm
    have hsame : es.modify j (fun e => { e with key := c.enc p }) = es := by
      apply Array.ext'
      rw [Array.toList_modify, modify_eq_set _ _ _ _ h3]
      have : ({ e0 with key := c.enc p } : MapEntry) = e0 := by rw [← h4]
      rw [this]
      obtain ⟨hl3, he3⟩ := List.getElem?_eq_some_iff.1 h3
      rw [← he3]
      exact List.set_getElem_self hl3
    refine ⟨e0.born, .map es clock, fun W hW => ?_, fun W hW => ?_, fun W v hW => ?_, fun W hW => ?_⟩
    · have hb' := hW.trans hb
      simp [Instr.mapEntry, run_underlying ht, MapKept.run_getObj_map hb', hc.keyed.check W _ hk, hfind, hj, h4, hc.keyed.stays W hk, MapKept.run_setObj_map _ hb', Result.andThen, setBlock, hsame, hv0]
    · rw [← hv0]
      exact look_found hc.keyed ht hk hW (hfind W)
    · obtain ⟨w', hrun, hWI, _⟩ := hput v
      have hrun2 : (Instr.mapUpdate t (.map (some b)) (c.enc p) (.int .i64 v)).run Try.prog w = .ok () (setBlock w b (.map (es.modify j fun e => { e with key := c.enc p, val := .int .i64 v }) clock)) := by
        simp [Instr.mapUpdate, run_underlying ht, MapKept.run_getObj_map hb, hc.keyed.check w _ hk, h1, hj, h4, hc.keyed.stays w hk, MapKept.run_setObj_map _ hb, Result.andThen, setBlock]
      rw [hrun] at hrun2
      injection hrun2 with _ e
      have hidx := findIdx_born F.stamped hj
      refine ⟨.map (es.modify j fun e => { e with key := c.enc p, val := .int .i64 v }) clock, ?_, ?_⟩
      · have hm : es.modify j (fun e => { e with val := .int .i64 v }) = es.modify j fun e => { e with key := c.enc p, val := .int .i64 v } := by
          apply Array.ext'
          rw [Array.toList_modify, Array.toList_modify, modify_eq_set _ _ _ _ h3, modify_eq_set _ _ _ _ h3, h4]
        have hs := store_found (t := t) (v := .int .i64 v) hW hidx
        rw [hm] at hs
        exact hs
      · refine hWI.same ?_
        rw [e, heap_setBlock_same hW, heap_setBlock_same hb]
    · simp [Instr.mapEntry, run_underlying ht, MapKept.run_getObj_map hW, hc.keyed.check W _ hk, hfind, hj, h4, hc.keyed.stays W hk, MapKept.run_setObj_map _ hW, Result.andThen, setBlock, hsame, hv0]
end Go.Proofs.Ytgbnjgenopdmfaa
