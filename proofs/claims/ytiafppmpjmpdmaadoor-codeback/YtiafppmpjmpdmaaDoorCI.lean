/- The reader: take, word, plainNumber, number walked. -/
import Derived.Test.YtiafppmpjmpdmaaDoorCG
namespace Go.Proofs.YtiafppmpjmpdmaaDoor
open Go.RowKit Go.Shelf

/-- Only the block r is turned. -/
abbrev Kr (r : Nat) (w w' : World) : Prop := Kpt (fun k => k = r) w w'
set_option maxHeartbeats 6400000 in
set_option maxRecDepth 100000 in
theorem take_any (r : Nat) (s : Rd) (t : List UInt8) (w : World) (h : Rb r s w) : Calls Tryd.prog 40 #[ptr r, sA t] w fun e w' => e = .returned (.tuple #[]) ∧ Rb r (takeR t s) w' ∧ Kr r w w' := by
  obtain ⟨l, g⟩ := s
  have HP : Hid (∀ W, Calls Tryd.prog 52 #[sA l, sA t] W fun e w' => e = .returned (.tuple #[sA (Lib.trimPrefix l t), .bool (Lib.hasPrefix l t)]) ∧ w' = W) := fun W => cutPrefixB l t W
  have HE : Hid (takeR t (l, g) = (Lib.trimPrefix l t, g || !Lib.hasPrefix l t)) := rfl
  have HF : Hid (∀ b : Bool, Rb r (Lib.trimPrefix l t, b) ((w.setCell ⟨r, 0, none⟩ (sA (Lib.trimPrefix l t))).setCell ⟨r, 1, none⟩ (.bool b)) ∧ Kr r w ((w.setCell ⟨r, 0, none⟩ (sA (Lib.trimPrefix l t))).setCell ⟨r, 1, none⟩ (.bool b))) := fun b => ⟨(h.put 0 _).put 1 _, (Kpt.set (M := fun k => k = r) rfl 0 _).trans (Kpt.set (M := fun k => k = r) rfl 1 _)⟩
  have c0 := h.c 0 rfl
  have c1 := h.c 1 rfl
  have f0 := h.f 0 rfl
  have f1 := h.f 1 rfl
  simp only at c0 c1
  rw [HE.out]
  generalize Lib.trimPrefix l t = T at *
  generalize Lib.hasPrefix l t = P at *
  clear h HE
  cases g
  all_goals
    go_enter Tryd.func40, Tryd.ntmps40
    go_wp2_with fail
    refine (HP.out _).mono ?_
    rintro e w1 ⟨rfl, hw⟩
    subst hw
    go_wp2
    refine bodyPost_end (v := .tuple #[]) (by simp [results, Tryd.results40, go_sem]) rfl ⟨rfl, ?_⟩
    exact HF.out _

theorem ext_take (l : List UInt8) (n : Nat) : (⟨l.toArray⟩ : ByteArray).extract 0 n = ⟨(l.take n).toArray⟩ := by
  rw [Lib.extract_eq]; simp
theorem ext_drop (l : List UInt8) (n : Nat) : (⟨l.toArray⟩ : ByteArray).extract n l.length = ⟨(l.drop n).toArray⟩ := by
  rw [Lib.extract_eq]
  congr 2
  rw [List.take_of_length_le]
  simp
theorem word_le (s : Rd) : (wordR s).length ≤ s.1.length := by
  have := congrArg List.length (word_parts s)
  rw [List.length_append] at this
  omega
set_option maxHeartbeats 6400000 in
set_option maxRecDepth 100000 in
theorem word_any (r : Nat) (s : Rd) (w : World) (h : Rb r s w) (hl : s.1.length < 4294967281) (hT : Tall w) : Calls Tryd.prog 43 #[ptr r] w fun e w' => e = .returned (sA (wordR s)) ∧ Rb r (restR s) w' ∧ Kr r w w' := by
  obtain ⟨l, g⟩ := s
  have HP : Hid (Calls Tryd.prog 21 #[sA l, sA [32]] w fun e w' => e = .returned (.tuple #[sA (wordR (l, g)), sA (Lib.cut l [32]).2.1, .bool (Lib.cut l [32]).2.2]) ∧ Below w.heap.size w w') := cutB l [32] w hl hT
  have HE : Hid (restR (l, g) = (l.drop (wordR (l, g)).length, g)) := rfl
  have hwl : (wordR (l, g)).length ≤ l.length := word_le (l, g)
  have HR : Hid (Rb r (l, g) w) := h
  have hl2 : l.length < 4294967281 := hl
  rw [HE.out]
  generalize wordR (l, g) = wd at *
  generalize (Lib.cut l [32]).2.1 = X at *
  generalize (Lib.cut l [32]).2.2 = Y at *
  clear h HE hl hT
  go_enter Tryd.func43, Tryd.ntmps43
  have c0 := HR.out.c 0 rfl
  simp only at c0
  go_wp2_with fail
  refine HP.out.mono ?_
  rintro e w1 ⟨rfl, hb⟩
  have HR1 : Hid (Rb r (l, g) w1) := HR.out.later hb
  have HK1 : Hid (Kr r w w1) := Kpt.of_below hb
  clear c0 HP HR hb
  have c0 := HR1.out.c 0 rfl
  have f0 := HR1.out.f 0 rfl
  simp only at c0
  go_wp2
  go_ret
  rw [ext_drop]
  exact ⟨rfl, HR1.out.put 0 _, HK1.out.trans (Kpt.set (M := fun k => k = r) rfl 0 _)⟩

theorem plain_yes {t : List UInt8} {v : Int} (h : Lib.atoi t = some v) : plainR t = (v, decide (Lib.itoa v = t)) := by unfold plainR; rw [h]
theorem plain_no {t : List UInt8} (h : Lib.atoi t = none) : plainR t = (0, false) := by unfold plainR; rw [h]
set_option maxHeartbeats 6400000 in
set_option maxRecDepth 100000 in
theorem plainNumber_any (t : List UInt8) (w : World) (ht : t.length ≤ 18) (hT : Tall w) : Calls Tryd.prog 55 #[sA t] w fun e w' => e = .returned (.tuple #[.int .i64 (plainR t).1, .bool (plainR t).2]) ∧ Below w.heap.size w w' := by
  cases h : Lib.atoi t with
  | none =>
    have HP : Hid (Calls Tryd.prog 72 #[sA t] w fun e w' => ∃ N, e = .returned (.tuple #[.int .i64 0, .iface 123 (.pointer (some ⟨N, 0, none⟩))]) ∧ Below w.heap.size w w') := atoi_no t w ht h hT
    rw [plain_no h]
    clear h hT ht
    go_enter Tryd.func55, Tryd.ntmps55
    go_wp2_with fail
    refine HP.out.mono ?_
    rintro e w1 ⟨N, rfl, hb⟩
    go_wp2
    go_ret2
    exact ⟨rfl, hb⟩
  | some v =>
    have HP : Hid (Calls Tryd.prog 72 #[sA t] w fun e w' => e = .returned (.tuple #[.int .i64 v, .nilIface]) ∧ Below w.heap.size w w') := atoi_yes t v w ht h
    have HI : Hid (∀ W, Tabs W → Calls Tryd.prog 38 #[.int .i64 v] W fun e w' => e = .returned (sA (Lib.itoa v)) ∧ Below W.heap.size W w') := fun W hW => itoaB v (atoi_in ht h).1 (atoi_in ht h).2 W hW
    rw [plain_yes h]
    have HD : Hid ((Lib.itoa v == t) = decide (Lib.itoa v = t)) := by
      show _ = _
      by_cases e : Lib.itoa v = t
      · simp [e]
      · simp [e]
    have HT : Hid (Tall w) := hT
    generalize decide (Lib.itoa v = t) = D at *
    generalize Lib.itoa v = V at *
    clear h hT ht
    go_enter Tryd.func55, Tryd.ntmps55
    go_wp2_with fail
    refine HP.out.mono ?_
    rintro e w1 ⟨rfl, hb⟩
    have HT1 : Hid (Tall w1) := HT.out.later hb
    go_wp2_with fail
    refine (HI.out _ HT1.out.tabs).mono ?_
    rintro e w2 ⟨rfl, hb2⟩
    have hE := HD.out
    go_wp2
    go_ret2
    exact ⟨rfl, hb.trans (hb2.mono hb.size)⟩
end Go.Proofs.YtiafppmpjmpdmaaDoor
