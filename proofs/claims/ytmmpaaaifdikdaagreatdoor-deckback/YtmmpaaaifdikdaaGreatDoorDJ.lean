/- readSeats, deck.Read walked, at the lines of a deck. -/
import Derived.Test.YtmmpaaaifdikdaaGreatDoorDH
import Derived.Test.YtmmpaaaifdikdaaGreatDoorDI
namespace Go.Proofs.YtmmpaaaifdikdaaGreatDoor
open Go.RowKit Go.Shelf

theorem two_zero (w : World) (n : Nat) (hn : n = w.heap.size) : Calls Tryz.prog 19 #[.slice (some ⟨n, 0, none⟩) 2 2] (w.alloc (.cells #[.int .i64 0, .int .i64 0] 23)) fun e w' => e = .returned (.int .i64 0) ∧ w' = w.alloc (.cells #[.int .i64 0, .int .i64 0] 23) := by
  subst hn
  exact cmpOr_any w.heap.size 2 [0, 0] _ (by simp) fun k hk => by
    match k, hk with
    | 0, _ => go_simp
    | 1, _ => go_simp
theorem SOk_of {s : Sit} (hp : plc s = 0) (h0 : chk s.ware = 0) : SOk s := by
  have h1 := lab_in (plc_in hp).2.2
  have h2 := lab_in (chk_in h0).1
  exact ⟨by unfold maxLen; omega, by unfold maxLen; omega⟩
set_option maxHeartbeats 6400000 in
set_option maxRecDepth 100000 in
theorem readSeats_some (ds : List Sit) (hd : dchk ds = 0) (ps : List (Nat × List UInt8)) (hps : ps.map (·.2) = ds.map lineL) (g cap n : Nat) (hn : n = ps.length) (w : World) (hT : Tabs w)
    (hR : ∀ k (hk : k < ps.length), w.cell? ⟨g, k * 2, none⟩ = some (.int .i64 (ps[k]'hk).1) ∧ w.cell? ⟨g, k * 2 + 1, none⟩ = some (.string ⟨(ps[k]'hk).2.toArray⟩)) :
    Calls Tryz.prog 28 #[.slice (some ⟨g, 0, none⟩) n cap] w fun e w' => ∃ u, e = .returned (.tuple #[u, .nilIface]) ∧ OwnD w' w.heap.size u ds ∧ Below w.heap.size w w' := by
  have HT : Hid (Tabs w) := hT
  have hd12 := (dchk_in hd).1
  have HD : Hid (∀ k (hk : k < ds.length), plc (ds[k]'hk) = 0 ∧ chk (ds[k]'hk).ware = 0 ∧ fit (ds.take k) (ds[k]'hk) = 0) := (dchk_in hd).2
  have hlen : ps.length = ds.length := by have := congrArg List.length hps; simpa using this
  have HR : Hid (∀ k (hk : k < ps.length), w.cell? ⟨g, k * 2, none⟩ = some (.int .i64 (ps[k]'hk).1) ∧ w.cell? ⟨g, k * 2 + 1, none⟩ = some (.string ⟨(ps[k]'hk).2.toArray⟩)) := hR
  have HLN : Hid (∀ k (hk : k < ps.length) (hk' : k < ds.length), (ps[k]'hk).2 = lineL (ds[k]'hk')) := fun k hk hk' => by
    have := congrArg (fun l => l[k]?) hps
    simp only [List.getElem?_map, List.getElem?_eq_getElem hk, List.getElem?_eq_getElem hk', Option.map_some, Option.some.injEq] at this
    exact this
  have HNL : Hid (n = ps.length ∧ n = ds.length) := ⟨hn, by omega⟩
  have hn12 : n ≤ 12 := by omega
  clear hT hd hps hlen hn hd12 hR
  go_enter Tryz.func28, Tryz.ntmps28
  go_wp2
  go_loopw [4, 11] (fun v i wr => ∃ k : Nat, k ≤ n ∧ i = .int .i64 k ∧ OwnD wr w.heap.size v (ds.take k) ∧ Below w.heap.size w wr) (fun _ i _ => n - (intOf i).toNat)
  case atStart => exact ⟨0, Nat.zero_le _, rfl, by simpa using OwnD.nil w w.heap.size, Below.refl _ _⟩
  case round =>
    obtain ⟨k, hk, rfl, hown, hb⟩ := hrel
    obtain ⟨ao1, cap1, rfl, _, _⟩ := hown.shape
    have HTK : Hid ((ds.take k).length = k) := by show _ = _; rw [List.length_take]; have := HNL.out.2; omega
    rw [HTK.out] at hown ⊢
    have HO : Hid (OwnD wr w.heap.size (.slice ao1 k cap1) (ds.take k)) := hown
    have HB : Hid (Below w.heap.size w wr) := hb
    clear hown hb
    by_cases hlt : k < n
    · have hk1 : k < ps.length := by rw [← HNL.out.1]; exact hlt
      have hk2 : k < ds.length := by rw [← HNL.out.2]; exact hlt
      have hc := HR.out
      have c0 := cell_later (HB.out.mono (Nat.le_refl _)) (hc k hk1).1
      have c1 := cell_later (HB.out.mono (Nat.le_refl _)) (hc k hk1).2
      rw [HLN.out k hk1 hk2] at c1
      obtain ⟨hp, h0, hf⟩ := HD.out k hk2
      have HTS : Hid (ds.take (k + 1) = ds.take k ++ [ds[k]'hk2]) := List.take_succ_eq_append_getElem hk2
      generalize ds[k]'hk2 = s at *
      have HRS : Hid (∀ W : World, Below w.heap.size w W → Calls Tryz.prog 60 #[.string ⟨(lineL s).toArray⟩] W fun e w' => e = .returned (.tuple #[sv s, .int .i64 0]) ∧ Below W.heap.size W w') := fun W hW => readSeat_any s W (HT.out.next hW) hp h0
      have HF : Hid (∀ W : World, Sts W ao1 (ds.take k) → Calls Tryz.prog 22 #[.slice ao1 k cap1, sv s] W fun e w' => e = .returned (.int .i64 0) ∧ Below W.heap.size W w') := fun W hW => by
        have := fitting_any ao1 cap1 (ds.take k) s W hW (by rw [HTK.out]; omega)
        rw [hf, HTK.out] at this
        exact this
      generalize (ps[k]'hk1).1 = num at *
      generalize lineL s = tx at *
      clear hp h0 hf hc hk1 hk2
      go_wp2_with fail
      refine Calls.mono (HRS.out (wr.alloc (.cells #[.int .i64 num, .string ⟨tx.toArray⟩] 122)) (HB.out.alloc HB.out.size _)) ?_
      rintro e w1 ⟨rfl, hb1⟩
      have al : Below wr.heap.size wr (wr.alloc (.cells #[.int .i64 num, .string ⟨tx.toArray⟩] 122)) := (Below.refl _ _).alloc (Nat.le_refl _) _
      have HB1 : Hid (Below w.heap.size w w1) := (HB.out.alloc HB.out.size _).trans (hb1.mono (by have := HB.out.size; simp; omega))
      have HO1 : Hid (OwnD w1 w.heap.size (.slice ao1 k cap1) (ds.take k)) := (HO.out.later al).later hb1
      clear hb1 al c0 c1 HRS HO
      go_wp2_with fail
      have al1 : Below w1.heap.size w1 (w1.alloc (sobj s)) := (Below.refl _ _).alloc (Nat.le_refl _) _
      have HS1 : Sts (w1.alloc (sobj s)) ao1 (ds.take k) := by
        obtain ⟨ao3, cap3, e3, hs3, _⟩ := (HO1.out.later al1).shape
        injection e3 with e4
        rw [e4]; exact hs3
      refine Calls.mono (HF.out (w1.alloc (sobj s)) HS1) ?_
      rintro e w2 ⟨rfl, hb2⟩
      have HB2 : Hid (Below w.heap.size w w2) := (HB1.out.alloc HB1.out.size _).trans (hb2.mono (by have := HB1.out.size; simp; omega))
      have HO2 : Hid (OwnD w2 w.heap.size (.slice ao1 k cap1) (ds.take k)) := (HO1.out.later al1).later hb2
      have KS2 : Hid (Sf w1.heap.size s w2) := (Sf.new w1 s).later hb2
      clear hb2 al1 HS1 HF HO1
      go_wp2_with fail
      refine Calls.mono (two_zero w2 w2.heap.size rfl) ?_
      rintro e wx ⟨rfl, rfl⟩
      obtain ⟨w3, hw3⟩ : ∃ w3, w3 = w2.alloc (.cells #[.int .i64 0, .int .i64 0] 23) := ⟨_, rfl⟩
      have al2 : Below w2.heap.size w2 w3 := by rw [hw3]; exact (Below.refl _ _).alloc (Nat.le_refl _) _
      have HB3 : Hid (Below w.heap.size w w3) := HB2.out.trans (al2.mono HB2.out.size)
      have HO3 : Hid (OwnD w3 w.heap.size (.slice ao1 k cap1) (ds.take k)) := HO2.out.later al2
      obtain ⟨⟨ql, q0, q1, q2, q3, q4, q5, q6, q7, q8, q9, q10, q11, q12, q13⟩, _⟩ := KS2.out.later al2
      simp only [Nat.zero_add] at q1 q2 q3 q4 q5 q6 q7 q8 q9 q10 q11 q12 q13
      rw [← hw3]
      clear hw3 al2 KS2 HO2
      go_wp2_with (at_builtin; refine wpList_append_seats _ rfl (.tmp 34) (.tmp 36) rfl w.heap.size (.slice ao1 k cap1) (ds.take k) rfl (HO3.out.later ((Below.refl _ _).alloc (Nat.le_refl _) _)) ⟨w3.heap.size, 0, none⟩ 1 1 [s] rfl rfl (Sts.one w3 s _ rfl) (by rw [HTK.out]; omega) (by simp) (by have := HB3.out.size; simp; omega) ?_; intro v' w4 hown1 hg)
      go_roundw
      case rel =>
        refine ⟨k + 1, by omega, by go_num, ?_, ?_⟩
        · rw [HTS.out]; exact hown1
        · exact below_owns (HB3.out.alloc HB3.out.size _) (HO3.out.later ((Below.refl _ _).alloc (Nat.le_refl _) _)) hg (by have := HB3.out.size; simp; omega)
      case measure => simp [intOf]; omega
    · have HE : Hid (ds.take k = ds) := by show _ = _; exact List.take_of_length_le (by have := HNL.out.2; omega)
      go_wp2
      refine bodyPost_ret (v := .tuple #[.slice ao1 k cap1, .nilIface]) (by simp [results, Tryz.results28, go_sem]) rfl ⟨_, rfl, ?_, HB.out⟩
      have := HO.out
      rwa [HE.out] at this
theorem readSeats_none (ao : Option Addr) (cap : Nat) (w : World) :
    Calls Tryz.prog 28 #[.slice ao 0 cap] w fun e w' => e = .returned (.tuple #[.slice none 0 0, .nilIface]) ∧ w' = w := by
  go_enter Tryz.func28, Tryz.ntmps28
  go_wp2
  go_loopw [4, 11] (fun v i wr => v = .slice none 0 0 ∧ i = .int .i64 0 ∧ wr = w) (fun _ _ _ => 0)
  case atStart => exact ⟨rfl, rfl, rfl⟩
  case round =>
    obtain ⟨rfl, rfl, rfl⟩ := hrel
    go_wp2
    refine bodyPost_ret (v := .tuple #[.slice none 0 0, .nilIface]) (by simp [results, Tryz.results28, go_sem]) rfl ⟨rfl, rfl⟩
theorem readSeats_any (ds : List Sit) (hd : dchk ds = 0) (ps : List (Nat × List UInt8)) (hps : ps.map (·.2) = ds.map lineL) (v : Value) (base : Nat) (w : World) (hT : Tabs w) (hown : OwnN w base v ps) :
    Calls Tryz.prog 28 #[v] w fun e w' => ∃ u, e = .returned (.tuple #[u, .nilIface]) ∧ OwnD w' w.heap.size u ds ∧ Below w.heap.size w w' := by
  rcases hown.read with e | ⟨g, cap, e, _, hc⟩
  · obtain ⟨ao, cap, rfl⟩ := hown.shape
    subst e
    have hds : ds = [] := by cases ds with
      | nil => rfl
      | cons _ _ => simp at hps
    subst hds
    refine (readSeats_none ao cap w).mono ?_
    rintro e w' ⟨rfl, rfl⟩
    exact ⟨_, rfl, OwnD.nil _ _, Below.refl _ _⟩
  · subst e
    exact readSeats_some ds hd ps hps g cap ps.length rfl w hT hc
theorem tassert (w : World) : (Instr.typeAssert Value.nilIface 68 78 true).run Tryz.prog w = .ok (.tuple #[.agg #[.int .i64 0, .int .i64 0], .bool false]) w := by kernel_rfl
set_option maxRecDepth 100000 in
set_option maxHeartbeats 3200000 in
/-- deck.Read at a text whose lines are those of a deck that may be. -/
theorem deckRead_any (ds : List Sit) (hd : dchk ds = 0) (u : List UInt8) (ps : List (Nat × List UInt8)) (hps : ps.map (·.2) = ds.map lineL) (hL : Lines u 1 ps) (hu : u.length < 4294967281) (w : World) (hT : Tabs w) :
    Calls Tryz.prog 9 #[.string ⟨u.toArray⟩] w fun e w' => ∃ v, e = .returned (.tuple #[v, .int .i64 0, .int .i64 0]) ∧ (∃ base, w.heap.size ≤ base ∧ OwnD w' base v ds) ∧ Below w.heap.size w w' := by
  have hlen : ps.length = ds.length := by have := congrArg List.length hps; simpa using this
  have hd12 := (dchk_in hd).1
  have H1 : Hid (Calls Tryz.prog 27 #[.string ⟨u.toArray⟩] w fun e w' => ∃ v, e = .returned v ∧ OwnN w' w.heap.size v ps ∧ Below w.heap.size w w') := tellingLines_any u ps w hT hu hL (by omega)
  have H2 : Hid (∀ (v : Value) (W : World), Below w.heap.size w W → OwnN W w.heap.size v ps → Calls Tryz.prog 28 #[v] W fun e w' => ∃ u, e = .returned (.tuple #[u, .nilIface]) ∧ OwnD w' W.heap.size u ds ∧ Below W.heap.size W w') := fun v W hW ho => readSeats_any ds hd ps hps v _ W (hT.next hW) ho
  have hp12 : ps.length ≤ 12 := by omega
  clear hT hL hps hd hlen hd12
  go_enter Tryz.func9, Tryz.ntmps9
  go_wp2_with fail
  refine Calls.mono H1.out ?_
  rintro e w1 ⟨v, rfl, ho, hb⟩
  obtain ⟨ao, cap, rfl⟩ := ho.shape
  have HC : Hid (Calls Tryz.prog 28 #[.slice ao ps.length cap] w1 fun e w' => ∃ u, e = .returned (.tuple #[u, .nilIface]) ∧ OwnD w' w1.heap.size u ds ∧ Below w1.heap.size w1 w') := H2.out _ w1 hb ho
  have HB : Hid (Below w.heap.size w w1) := hb
  clear ho H1 H2 hb
  generalize ps.length = n at *
  go_wp2_with fail
  refine Calls.mono HC.out ?_
  rintro e w2 ⟨v2, rfl, ho2, hb2⟩
  have HO2 : Hid (OwnD w2 w1.heap.size v2 ds) := ho2
  have HB2 : Hid (Below w1.heap.size w1 w2) := hb2
  clear ho2 hb2
  have hta : (Instr.typeAssert Value.nilIface 68 78 true).run Tryz.prog w2 = .ok (.tuple #[.agg #[.int .i64 0, .int .i64 0], .bool false]) w2 := tassert w2
  go_wp2
  refine bodyPost_ret (v := .tuple #[v2, .int .i64 0, .int .i64 0]) (by simp [results, Tryz.results9, go_sem]) rfl ⟨v2, rfl, ⟨w1.heap.size, HB.out.size, HO2.out.later ((Below.refl _ _).alloc (Nat.le_refl _) _)⟩, ?_⟩
  exact (HB.out.trans (HB2.out.mono HB.out.size)).alloc (by have := HB.out.size; have := HB2.out.size; omega) _

end Go.Proofs.YtmmpaaaifdikdaaGreatDoor
