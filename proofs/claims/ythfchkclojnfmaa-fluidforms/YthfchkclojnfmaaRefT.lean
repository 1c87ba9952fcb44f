/- The document's FluidSorted, walked. -/
import Derived.Test.YthfchkclojnfmaaMath4
import Derived.Test.YthfchkclojnfmaaGive
import Derived.Test.YthfchkclojnfmaaRefS
import Derived.Test.YthfchkclojnfmaaRefD
namespace Go.Proofs.Ythfchkclojnfmaa
open Go.RowKit Go.Maps Go.WideMaps

theorem bl_eq : ∀ (x y : List UInt8), Op.bytesLess x y = decide (x < y)
  | [], [] => by simp [Op.bytesLess]
  | _ :: _, [] => by simp [Op.bytesLess]
  | [], _ :: _ => by simp [Op.bytesLess]
  | a :: x, b :: y => by
    rw [Op.bytesLess, bl_eq x y]
    simp only [List.cons_lt_cons_iff]
    by_cases h1 : a < b <;> by_cases h2 : a = b <;> by_cases h3 : x < y <;> simp [h1, h2, h3]
theorem less_eq (a b : ByteArray) : Op.bytesLess a.toList b.toList = decide (a.data.toList < b.data.toList) := by
  rw [ByteArray.toList_eq, ByteArray.toList_eq, bl_eq]
theorem old_cell' {w wr w1 : World} {base b o : Nat} {u : Value} (hB : Below base w wr) (hB1 : Below base w w1) (hb : b < base) (h : wr.cell? ⟨b, o, none⟩ = some u) : w1.cell? ⟨b, o, none⟩ = some u :=
  (hB1.cell (p := ⟨b, o, none⟩) hb).trans ((hB.cell (p := ⟨b, o, none⟩) hb).symm.trans h)
theorem wpList_append_n (w : World) {ops : Array Oper} {rest : List Oper} {o : Oper} {a : Act} {Q : Exit → Act → World → Prop} (hgd : o.guard = none) (s x : Operand)
    (ho : o.op = .call { callee := .builtin .append, args := #[s, x], argTypes := #[22, 22] }) (base : Nat) (v : Value) (ps : List Pc) (hs : a.eval s = v) (hown : Own w base v ps)
    (ao : Option Addr) (n c : Nat) (qs : List Pc) (hx : a.eval x = .slice ao n c) (hn : n = qs.length) (hq : Fl w ao qs) (hc : ao ≠ none)
    (hlen : (ps.length + qs.length) * 24 ≤ 140737488355328) (hbase : base ≤ w.heap.size)
    (h : ∀ v' w', Own w' base v' (ps ++ qs) → w.grownBy w' v.ownBlock → Loc w v v' → wpList Try.prog ops Q rest (a.put o.dst v') w') :
    wpList Try.prog ops Q (o :: rest) a w := by
  subst hn
  exact wpList_append_any w hgd s x ho base v ps hs hown ao c qs hx hq (fun e => absurd e hc) hlen hbase h
/-- The first of a fluid, and the rest. -/
theorem Fl.cut {w : World} {b off : Nat} {S A R : List Pc} (h : Fl w (some ⟨b, off, none⟩) S) (e : S = A ++ R) : Fl w (some ⟨b, off, none⟩) A ∧ Fl w (some ⟨b, off + A.length * 2, none⟩) R := by
  subst e
  obtain ⟨hs, hc⟩ := h
  rcases hc with h0 | ⟨b', off', e, hb, hc⟩
  · obtain ⟨rfl, rfl⟩ := List.append_eq_nil_iff.1 h0
    exact ⟨Fl.nil _ _, Fl.nil _ _⟩
  · injection e with e
    injection e with e1 e2 _
    subst e1 e2
    refine ⟨⟨fun p hp => hs p (List.mem_append_left _ hp), .inr ⟨b, off, rfl, hb, fun k hk => ?_⟩⟩, ⟨fun p hp => hs p (List.mem_append_right _ hp), .inr ⟨b, _, rfl, hb, fun k hk => ?_⟩⟩⟩
    · have := hc k (by rw [List.length_append]; omega)
      rw [List.getElem_append_left hk] at this
      exact this
    · have := hc (A.length + k) (by rw [List.length_append]; omega)
      rw [List.getElem_append_right (by omega)] at this
      simp only [Nat.add_sub_cancel_left] at this
      rw [show off + (A.length + k) * 2 = off + A.length * 2 + k * 2 by omega] at this
      exact this
theorem own_cap {w : World} {base n cap : Nat} {ao : Option Addr} {S : List Pc} (h : Own w base (.slice ao n cap) S) (h0 : 0 < S.length) : S.length ≤ cap ∧ cap ≤ 9223372036854775807 := by
  rcases h.2 with ⟨_, h2⟩ | ⟨g, cap', cur, h1, _, _, h4, h5, _⟩
  · omega
  · injection h1 with _ _ e3
    subst e3
    unfold maxLen at h5
    exact ⟨h4, by omega⟩
theorem Fl.drew' {w : World} {ao : Option Addr} {ps : List Pc} (h : Fl w ao ps) (n : Nat) : Fl (w.drewN n) ao ps := h

set_option maxRecDepth 100000 in
set_option maxHeartbeats 6400000 in
theorem fluidSorted_any (ao : Option Addr) (cap : Nat) (ps : List Pc) (w : World) (h : Fl w ao ps) (hr : fref ps = 0) :
    Calls Try.prog 18 #[.slice ao ps.length cap] w fun e w' => ∃ v S, e = .returned v ∧ Srt ps S ∧ Own w' w.heap.size v S ∧ Below w.heap.size w w' := by
  have HF : Hid (Fl w ao ps) := h
  have HR : Hid (fref ps = 0) := hr
  have HI : Hid (ps.length ≤ 100 ∧ Fine ps ∧ tot ps ≤ 1000000000) := fref_in hr
  have hl := HI.out.1
  clear h hr
  go_enter Try.func18, Try.ntmps18
  go_wp2
  go_loopw [3, 4] (fun v i wr => ∃ (m : Nat) (S : List Pc), m ≤ ps.length ∧ i = .int .i64 m ∧ Part ps m S ∧ S.length ≤ m ∧ (S = [] → v = .slice none 0 0) ∧ Own wr w.heap.size v S ∧ Below w.heap.size w wr) (fun _ i _ => ps.length - (intOf i).toNat)
  case atStart => exact ⟨0, [], Nat.zero_le _, rfl, part_zero _, Nat.le_refl _, fun _ => rfl, Own.nil _ _, Below.refl _ _⟩
  case round =>
    obtain ⟨m, S, hm, rfl, hP, hSl, hnil, hown, hb⟩ := hrel
    obtain ⟨w1, rfl⟩ : ∃ w1, w1 = wr := ⟨_, rfl⟩
    obtain ⟨a1, c1, rfl⟩ := hown.shape
    have HP : Hid (Part ps m S) := hP
    have HN : Hid (S = [] → (Value.slice a1 S.length c1) = .slice none 0 0) := hnil
    have HO : Hid (Own w1 w.heap.size (.slice a1 S.length c1) S) := hown
    have HB : Hid (Below w.heap.size w w1) := hb
    clear hP hnil hown hb
    by_cases hlt : m < ps.length
    · obtain ⟨b2, off, rfl, hb2, c0, c1', hsz⟩ := (HF.out.next HB.out).at hlt
      have hb2w : b2 < w.heap.size := by
        obtain ⟨b', off', e, hb', _⟩ := HF.out.at hlt
        injection e with e
        injection e with e _ _
        omega
      have HSS : Hid (sumL ps (lb (ps[m]'hlt)) = 0 ∨ (∃ q ∈ S, lb q = lb (ps[m]'hlt)) → Part ps (m + 1) S) := part_skip hlt HP.out
      have HIn : Hid (0 < sumL ps (lb (ps[m]'hlt)) → (∀ b B, rest S (lb (ps[m]'hlt)) = b :: B → lb b ≠ lb (ps[m]'hlt)) → Part ps (m + 1) (ahead S (lb (ps[m]'hlt)) ++ [((ps[m]'hlt).1, sumL ps (lb (ps[m]'hlt)))] ++ rest S (lb (ps[m]'hlt)))) := part_ins hlt HP.out
      have hs0 := (sumL_in HI.out.2.1.nn (lb (ps[m]'hlt))).1
      have hs1 : sumL ps (lb (ps[m]'hlt)) ≤ 1000000000 := by have := (sumL_in HI.out.2.1.nn (lb (ps[m]'hlt))).2; have := HI.out.2.2; omega
      obtain ⟨p, hp⟩ : ∃ p, ps[m]'hlt = p := ⟨_, rfl⟩
      rw [hp] at c0 c1' HSS HIn hsz hs0 hs1
      clear hp
      obtain ⟨l, v⟩ := p
      simp only [lb] at c0 c1' HSS HIn hsz hs0 hs1
      have HSz : Hid (∀ q ∈ S, q.1.size ≤ maxLen) := fun q hq => by
        obtain ⟨q', hq', e⟩ := ((HP.out.2 q).1 hq).2
        have e2 : q'.1 = q.1 := ByteArray.ext (Array.ext' e)
        rw [← e2]; exact fine_size HR.out q' (List.mem_of_mem_take hq')
      have HFS : Hid (Fl w1 a1 S) := HO.out.fl HSz.out
      have HAR : Hid (S = ahead S l.data.toList ++ rest S l.data.toList) := ahead_rest S _
      have HAL : Hid (∀ q ∈ ahead S l.data.toList, lb q < l.data.toList) := ahead_lt
      have HRH : Hid (∀ b B, rest S l.data.toList = b :: B → ¬ lb b < l.data.toList) := fun b B h => rest_head h
      generalize ahead S l.data.toList = A at *
      generalize rest S l.data.toList = R at *
      have hAl : A.length ≤ S.length := by have := congrArg List.length HAR.out; rw [List.length_append] at this; omega
      go_wp2
      go_loopw [5] (fun kk wr => ∃ j : Nat, j ≤ A.length ∧ kk = .int .i64 j ∧ ∃ n, wr = w1.drewN n) (fun kk _ => A.length - (intOf kk).toNat)
      case atStart => exact ⟨0, Nat.zero_le _, rfl, 0, rfl⟩
      case round =>
        obtain ⟨j, hj, rfl, n1, rfl⟩ := hrel
        by_cases hjA : j < A.length
        · have hjS : j < S.length := by omega
          obtain ⟨b3, off3, rfl, hb3, d0, d1, _⟩ := HFS.out.at hjS
          have hless : lb (S[j]'hjS) < l.data.toList := by
            have e : S[j]'hjS = A[j]'hjA := by
              have h1 : S[j]? = (A ++ R)[j]? := by rw [← HAR.out]
              rw [List.getElem?_append_left hjA, List.getElem?_eq_getElem hjS, List.getElem?_eq_getElem hjA] at h1
              simpa using h1
            rw [e]; exact HAL.out _ (List.getElem_mem hjA)
          obtain ⟨q, hq⟩ : ∃ q, S[j]'hjS = q := ⟨_, rfl⟩
          rw [hq] at d0 d1 hless
          clear hq
          obtain ⟨ql, qn⟩ := q
          simp only [lb] at d0 d1 hless
          have hbl : Op.bytesLess ql.toList l.toList = true := by rw [less_eq, decide_eq_true hless]
          have hjd : decide (j < S.length) = true := by simp [hjS]
          clear hless
          go_wp2
          go_big_quiet (fail)
          go_wp2
          go_roundw
          case rel => exact ⟨j + 1, by omega, by go_num, n1 + nq, by simp⟩
          case measure => simp [intOf]; omega
        · obtain rfl : j = A.length := by omega
          clear hj hjA
          have hws := HB.out.size
          cases hRR : R with
          | nil =>
            rw [hRR] at HAR HRH HIn
            clear hRR
            have hSA : A = S := by have := HAR.out; rw [List.append_nil] at this; exact this.symm
            subst hSA
            have hjd : decide (A.length < A.length) = false := by simp
            by_cases hsum : sumL ps l.data.toList = 0
            · have HP2 : Hid (Part ps (m + 1) A) := HSS.out (.inl hsum)
              have hz : (sumL ps l.data.toList == 0) = true := by simp [hsum]
              clear hsum
              go_wp2
              go_big_quiet (fail)
              go_wp2_with fail
              refine (labelSum_any (some ⟨b2, off, none⟩) cap ps l (w1.drewN (n1 + nq)) (HF.out.next (below_drewN HB.out _)) HR.out).mono ?_
              rintro e w6 ⟨rfl, hw6⟩
              obtain ⟨hOx, hBx, hFx, c0x⟩ : Own w6 w.heap.size (.slice a1 A.length c1) A ∧ Below w.heap.size w w6 ∧ Fl w6 a1 A ∧ w6.cell? ⟨b2, off + m * 2, none⟩ = some (.string l) := by
                subst hw6; exact ⟨HO.out, below_drewN HB.out _, HFS.out, c0⟩
              have HOx : Hid (Own w6 w.heap.size (.slice a1 A.length c1) A) := hOx
              have HBx : Hid (Below w.heap.size w w6) := hBx
              have HFx : Hid (Fl w6 a1 A) := hFx
              clear hw6 hOx hBx hFx c0 c1' hjd
              go_wp2
              go_big_quiet (fail)
              go_wp2
              go_roundw
              case rel => exact ⟨m + 1, A, by omega, by go_num, HP2.out, by omega, HN.out, HOx.out.drewN nq, below_drewN HBx.out nq⟩
              case measure => simp [intOf]; omega
            · have hz : (sumL ps l.data.toList == 0) = false := by simp [hsum]
              have HP2 : Hid (Part ps (m + 1) (A ++ [(l, sumL ps l.data.toList)] ++ [])) := HIn.out (by omega) (fun b B h => by cases h)
              clear hsum
              by_cases hA : A = []
              · have hv := HN.out hA
                rw [hA] at hv
                injection hv with e1 _ e3
                subst e1 e3
                subst hA
                simp only [List.length_nil] at HO hSl hAl ⊢
                have hjd : decide (0 < 0) = false := by simp
                go_wp2
                go_big_quiet (fail)
                go_wp2_with fail
                refine (labelSum_any (some ⟨b2, off, none⟩) cap ps l (w1.drewN (n1 + nq)) (HF.out.next (below_drewN HB.out _)) HR.out).mono ?_
                rintro e w6 ⟨rfl, hw6⟩
                obtain ⟨hOx, hBx, hFx, c0x⟩ : Own w6 w.heap.size (.slice none 0 0) ([] : List Pc) ∧ Below w.heap.size w w6 ∧ Fl w6 none ([] : List Pc) ∧ w6.cell? ⟨b2, off + m * 2, none⟩ = some (.string l) := by
                  subst hw6; exact ⟨HO.out, below_drewN HB.out _, HFS.out, c0⟩
                have HOx : Hid (Own w6 w.heap.size (.slice none 0 0) ([] : List Pc)) := hOx
                have HBx : Hid (Below w.heap.size w w6) := hBx
                have HFx : Hid (Fl w6 none ([] : List Pc)) := hFx
                clear hw6 hOx hBx hFx c0 c1' hjd
                go_wp2
                go_big_quiet (fail)
                obtain ⟨wy, hwy⟩ : ∃ wy, w6.drewN nq = wy := ⟨_, rfl⟩
                rw [hwy]
                have HBy : Hid (Below w.heap.size w wy) := by rw [← hwy]; exact below_drewN HBx.out nq
                have HFy : Hid (Fl wy none ([] : List Pc)) := by rw [← hwy]; exact HFx.out
                have c0y : wy.cell? ⟨b2, off + m * 2, none⟩ = some (.string l) := by rw [← hwy]; exact c0x
                clear hwy c0x
                have hwys := HBy.out.size
                generalize sumL ps l.data.toList = N at *
                go_wp2_with (first | (at_builtin; refine wpList_append_pc _ rfl (.tmp 66) (.tmp 74) rfl w.heap.size (.slice none 0 0) [] rfl (Own.nil _ _) wy.heap.size l N rfl (by go_simp) (by go_simp) (by simp) (by simp; omega) ?_; intro v1 w7 ho7 hg7 hloc7; have hb7 : Below w.heap.size w w7 := (HBy.out.alloc hwys _).grown hg7 (by simp; omega) (fun k hk => by cases hk)) | (at_builtin; refine wpList_append_any _ rfl (.tmp 76) (.tmp 79) rfl w.heap.size v1 ([] ++ [(l, N)]) rfl ho7 none 0 [] rfl (Fl.nil _ _) (fun _ => rfl) (by simp) hb7.size ?_; intro v2 w8 ho8 hg8 hloc8))
                have HBz : Hid (Below w.heap.size w w8) := below_grown hb7 ho7 hg8 hb7.size
                have HO8 : Hid (Own w8 w.heap.size v2 (([] ++ [(l, N)]) ++ [])) := ho8
                clear ho7 hg7 hloc7 ho8 hg8 hloc8
                go_wp2
                go_roundw
                case rel => exact ⟨m + 1, (([] ++ [(l, N)]) ++ []), by omega, by go_num, HP2.out, by simp, fun h => absurd h (by simp), HO8.out, HBz.out⟩
                case measure => simp [intOf]; omega
              · have hA0 : 0 < A.length := List.length_pos_iff.2 hA
                clear hA
                obtain ⟨b3, off3, rfl, hb3, _, _, _⟩ := HFS.out.at hA0
                have hcap : A.length ≤ c1 ∧ c1 ≤ 9223372036854775807 := own_cap HO.out hA0
                have hcap1 := hcap.1
                have hcap2 := hcap.2
                clear hcap
                go_wp2
                go_big_quiet (fail)
                go_wp2_with fail
                refine (labelSum_any (some ⟨b2, off, none⟩) cap ps l (w1.drewN (n1 + nq)) (HF.out.next (below_drewN HB.out _)) HR.out).mono ?_
                rintro e w6 ⟨rfl, hw6⟩
                obtain ⟨hOx, hBx, hFx, c0x⟩ : Own w6 w.heap.size (.slice (some ⟨b3, off3, none⟩) A.length c1) A ∧ Below w.heap.size w w6 ∧ Fl w6 (some ⟨b3, off3, none⟩) A ∧ w6.cell? ⟨b2, off + m * 2, none⟩ = some (.string l) := by
                  subst hw6; exact ⟨HO.out, below_drewN HB.out _, HFS.out, c0⟩
                have HOx : Hid (Own w6 w.heap.size (.slice (some ⟨b3, off3, none⟩) A.length c1) A) := hOx
                have HBx : Hid (Below w.heap.size w w6) := hBx
                have HFx : Hid (Fl w6 (some ⟨b3, off3, none⟩) A) := hFx
                clear hw6 hOx hBx hFx c0 c1' hjd
                go_wp2
                go_big_quiet (fail)
                obtain ⟨wy, hwy⟩ : ∃ wy, w6.drewN nq = wy := ⟨_, rfl⟩
                rw [hwy]
                have HBy : Hid (Below w.heap.size w wy) := by rw [← hwy]; exact below_drewN HBx.out nq
                have HFy : Hid (Fl wy (some ⟨b3, off3, none⟩) A) := by rw [← hwy]; exact HFx.out
                have c0y : wy.cell? ⟨b2, off + m * 2, none⟩ = some (.string l) := by rw [← hwy]; exact c0x
                clear hwy c0x
                have hwys := HBy.out.size
                generalize sumL ps l.data.toList = N at *
                go_wp2_with (first | (at_builtin; refine wpList_append_n _ rfl (.tmp 61) (.tmp 64) rfl wy.heap.size (.slice none 0 0) [] rfl (Own.nil _ _) (some ⟨b3, off3, none⟩) A.length c1 A rfl rfl HFy.out (by simp) (by simp; omega) (Nat.le_refl _) ?_; intro v0 w5 ho5 hg5 hloc5; have hb5 : Below wy.heap.size wy w5 := (Below.refl _ _).grown hg5 (Nat.le_refl _) (fun k hk => by cases hk); have c0z : w5.cell? ⟨b2, off + m * 2, none⟩ = some (.string l) := (hb5.cell (p := ⟨b2, off + m * 2, none⟩) (by simp only; omega)).trans c0y) | (at_builtin; refine wpList_append_pc _ rfl (.tmp 66) (.tmp 74) rfl wy.heap.size v0 ([] ++ A) rfl (ho5.alloc _) w5.heap.size l N rfl (by go_simp) (by go_simp) (by simp; omega) (by have := hb5.size; simp; omega) ?_; intro v1 w7 ho7 hg7 hloc7; have hb7 : Below wy.heap.size wy w7 := below_grown (hb5.alloc hb5.size _) (ho5.alloc _) hg7 (by have := hb5.size; simp; omega)) | (at_builtin; refine wpList_append_n _ rfl (.tmp 76) (.tmp 79) rfl wy.heap.size v1 (([] ++ A) ++ [(l, N)]) rfl ho7 _ _ _ [] rfl (by simp) (Fl.nil _ _) (by split <;> simp) (by simp; omega) hb7.size ?_; intro v2 w8 ho8 hg8 hloc8))
                have HBz : Hid (Below w.heap.size w w8) := HBy.out.trans ((below_grown hb7 ho7 hg8 hb7.size).mono hwys)
                have HO8 : Hid (Own w8 w.heap.size v2 ((([] ++ A) ++ [(l, N)]) ++ [])) := own_base ho8 hwys
                clear ho5 hg5 hloc5 ho7 hg7 hloc7 ho8 hg8 hloc8
                go_wp2
                go_roundw
                case rel => exact ⟨m + 1, ((([] ++ A) ++ [(l, N)]) ++ []), by omega, by go_num, HP2.out, by simp; omega, fun h => absurd h (by simp), HO8.out, HBz.out⟩
                case measure => simp [intOf]; omega
          | cons r R' =>
            rw [hRR] at HAR HRH HIn
            clear hRR
            have hSlen : S.length = A.length + (R'.length + 1) := by have := congrArg List.length HAR.out; rw [List.length_append, List.length_cons] at this; exact this
            have hAS : A.length < S.length := by omega
            obtain ⟨b3, off3, rfl, hb3, d0, d1, _⟩ := HFS.out.at hAS
            have er : S[A.length]'hAS = r := by
              have h1 : S[A.length]? = (A ++ r :: R')[A.length]? := by rw [← HAR.out]
              rw [List.getElem?_append_right (Nat.le_refl _), Nat.sub_self, List.getElem?_eq_getElem hAS] at h1
              simpa using h1
            have hmem : r ∈ S := by rw [← er]; exact List.getElem_mem hAS
            rw [er] at d0 d1
            clear er
            have hnl : ¬ lb r < l.data.toList := HRH.out r R' rfl
            obtain ⟨rl, rn⟩ := r
            simp only [lb] at d0 d1 hnl
            have hbl : Op.bytesLess rl.toList l.toList = false := by rw [less_eq, decide_eq_false hnl]
            have hjd : decide (A.length < S.length) = true := by simp [hAS]
            have hjd0 : decide (A.length < S.length) = true := hjd
            have hcap : S.length ≤ c1 ∧ c1 ≤ 9223372036854775807 := own_cap HO.out (by omega)
            have hcap1 := hcap.1
            have hcap2 := hcap.2
            have HSL : Hid (S.length = A.length + (R'.length + 1)) := hSlen
            clear hcap hnl hSlen
            by_cases hsum : sumL ps l.data.toList = 0
            · have HP2 : Hid (Part ps (m + 1) S) := HSS.out (.inl hsum)
              have hz : (sumL ps l.data.toList == 0) = true := by simp [hsum]
              clear hsum
              go_wp2
              go_big_quiet (fail)
              go_wp2_with fail
              refine (labelSum_any (some ⟨b2, off, none⟩) cap ps l (w1.drewN (n1 + nq)) (HF.out.next (below_drewN HB.out _)) HR.out).mono ?_
              rintro e w6 ⟨rfl, hw6⟩
              obtain ⟨hOx, hBx, hFx, c0x⟩ : Own w6 w.heap.size (.slice (some ⟨b3, off3, none⟩) S.length c1) S ∧ Below w.heap.size w w6 ∧ Fl w6 (some ⟨b3, off3, none⟩) S ∧ w6.cell? ⟨b2, off + m * 2, none⟩ = some (.string l) := by
                subst hw6; exact ⟨HO.out, below_drewN HB.out _, HFS.out, c0⟩
              have HOx : Hid (Own w6 w.heap.size (.slice (some ⟨b3, off3, none⟩) S.length c1) S) := hOx
              have HBx : Hid (Below w.heap.size w w6) := hBx
              have HFx : Hid (Fl w6 (some ⟨b3, off3, none⟩) S) := hFx
              have d0x : w6.cell? ⟨b3, off3 + A.length * 2, none⟩ = some (.string rl) := by subst hw6; exact d0
              clear hw6 hOx hBx hFx c0 c1' hjd d0 d1
              go_wp2
              go_big_quiet (fail)
              go_wp2
              go_roundw
              case rel => exact ⟨m + 1, S, by omega, by go_num, HP2.out, by omega, HN.out, HOx.out.drewN nq, below_drewN HBx.out nq⟩
              case measure => simp [intOf]; omega
            · have hz : (sumL ps l.data.toList == 0) = false := by simp [hsum]
              by_cases hrl : rl.data.toList = l.data.toList
              · have HP2 : Hid (Part ps (m + 1) S) := HSS.out (.inr ⟨_, hmem, hrl⟩)
                have hbe : (rl.toList == l.toList) = true := by rw [ba_eq, decide_eq_true hrl]
                clear hsum hrl hmem
                go_wp2
                go_big_quiet (fail)
                go_wp2_with fail
                refine (labelSum_any (some ⟨b2, off, none⟩) cap ps l (w1.drewN (n1 + nq)) (HF.out.next (below_drewN HB.out _)) HR.out).mono ?_
                rintro e w6 ⟨rfl, hw6⟩
                obtain ⟨hOx, hBx, hFx, c0x⟩ : Own w6 w.heap.size (.slice (some ⟨b3, off3, none⟩) S.length c1) S ∧ Below w.heap.size w w6 ∧ Fl w6 (some ⟨b3, off3, none⟩) S ∧ w6.cell? ⟨b2, off + m * 2, none⟩ = some (.string l) := by
                  subst hw6; exact ⟨HO.out, below_drewN HB.out _, HFS.out, c0⟩
                have HOx : Hid (Own w6 w.heap.size (.slice (some ⟨b3, off3, none⟩) S.length c1) S) := hOx
                have HBx : Hid (Below w.heap.size w w6) := hBx
                have HFx : Hid (Fl w6 (some ⟨b3, off3, none⟩) S) := hFx
                have d0x : w6.cell? ⟨b3, off3 + A.length * 2, none⟩ = some (.string rl) := by subst hw6; exact d0
                clear hw6 hOx hBx hFx c0 c1' hjd d0 d1
                go_wp2
                go_big_quiet (fail)
                go_wp2
                go_roundw
                case rel => exact ⟨m + 1, S, by omega, by go_num, HP2.out, by omega, HN.out, HOx.out.drewN nq, below_drewN HBx.out nq⟩
                case measure => simp [intOf]; omega
              · have HP2 : Hid (Part ps (m + 1) (A ++ [(l, sumL ps l.data.toList)] ++ (rl, rn) :: R')) := HIn.out (by omega) (fun b B h => by injection h with h1 _; rw [← h1]; exact hrl)
                have hbe : (rl.toList == l.toList) = false := by rw [ba_eq, decide_eq_false hrl]
                clear hsum hrl hmem
                have hcne : ¬ c1 = A.length := by omega
                go_wp2
                go_big_quiet (fail)
                go_wp2_with fail
                refine (labelSum_any (some ⟨b2, off, none⟩) cap ps l (w1.drewN (n1 + nq)) (HF.out.next (below_drewN HB.out _)) HR.out).mono ?_
                rintro e w6 ⟨rfl, hw6⟩
                obtain ⟨hOx, hBx, hFx, c0x⟩ : Own w6 w.heap.size (.slice (some ⟨b3, off3, none⟩) S.length c1) S ∧ Below w.heap.size w w6 ∧ Fl w6 (some ⟨b3, off3, none⟩) S ∧ w6.cell? ⟨b2, off + m * 2, none⟩ = some (.string l) := by
                  subst hw6; exact ⟨HO.out, below_drewN HB.out _, HFS.out, c0⟩
                have HOx : Hid (Own w6 w.heap.size (.slice (some ⟨b3, off3, none⟩) S.length c1) S) := hOx
                have HBx : Hid (Below w.heap.size w w6) := hBx
                have HFx : Hid (Fl w6 (some ⟨b3, off3, none⟩) S) := hFx
                have d0x : w6.cell? ⟨b3, off3 + A.length * 2, none⟩ = some (.string rl) := by subst hw6; exact d0
                clear hw6 hOx hBx hFx c0 c1' hjd d0 d1
                go_wp2
                go_big_quiet (fail)
                obtain ⟨wy, hwy⟩ : ∃ wy, w6.drewN nq = wy := ⟨_, rfl⟩
                rw [hwy]
                have HBy : Hid (Below w.heap.size w wy) := by rw [← hwy]; exact below_drewN HBx.out nq
                have HFy : Hid (Fl wy (some ⟨b3, off3, none⟩) S) := by rw [← hwy]; exact HFx.out
                have c0y : wy.cell? ⟨b2, off + m * 2, none⟩ = some (.string l) := by rw [← hwy]; exact c0x
                clear hwy c0x
                have hwys := HBy.out.size
                generalize sumL ps l.data.toList = N at *
                have HCut : Hid (Fl wy (some ⟨b3, off3, none⟩) A ∧ Fl wy (some ⟨b3, off3 + A.length * 2, none⟩) ((rl, rn) :: R')) := HFy.out.cut HAR.out
                clear d0x
                have hRl : R'.length ≤ 100 := by have := HSL.out; omega
                go_wp2_with (first | (at_builtin; refine wpList_append_n _ rfl (.tmp 61) (.tmp 64) rfl wy.heap.size (.slice none 0 0) [] rfl (Own.nil _ _) (some ⟨b3, off3, none⟩) A.length c1 A rfl rfl HCut.out.1 (by simp) (by simp; omega) (Nat.le_refl _) ?_; intro v0 w5 ho5 hg5 hloc5; have hb5 : Below wy.heap.size wy w5 := (Below.refl _ _).grown hg5 (Nat.le_refl _) (fun k hk => by cases hk); have c0z : w5.cell? ⟨b2, off + m * 2, none⟩ = some (.string l) := (hb5.cell (p := ⟨b2, off + m * 2, none⟩) (by simp only; omega)).trans c0y) | (at_builtin; refine wpList_append_pc _ rfl (.tmp 66) (.tmp 74) rfl wy.heap.size v0 ([] ++ A) rfl (ho5.alloc _) w5.heap.size l N rfl (by go_simp) (by go_simp) (by simp; omega) (by have := hb5.size; simp; omega) ?_; intro v1 w7 ho7 hg7 hloc7; have hb7 : Below wy.heap.size wy w7 := below_grown (hb5.alloc hb5.size _) (ho5.alloc _) hg7 (by have := hb5.size; simp; omega)) | (at_builtin; refine wpList_append_n _ rfl (.tmp 76) (.tmp 79) rfl wy.heap.size v1 (([] ++ A) ++ [(l, N)]) rfl ho7 (some ⟨b3, off3 + A.length * 2, none⟩) _ _ ((rl, rn) :: R') rfl (by have := HSL.out; simp; omega) (HCut.out.2.next hb7) (by simp) (by simp; omega) hb7.size ?_; intro v2 w8 ho8 hg8 hloc8))
                have HBz : Hid (Below w.heap.size w w8) := HBy.out.trans ((below_grown hb7 ho7 hg8 hb7.size).mono hwys)
                have HO8 : Hid (Own w8 w.heap.size v2 ((([] ++ A) ++ [(l, N)]) ++ (rl, rn) :: R')) := own_base ho8 hwys
                clear ho5 hg5 hloc5 ho7 hg7 hloc7 ho8 hg8 hloc8
                go_wp2
                go_roundw
                case rel => exact ⟨m + 1, ((([] ++ A) ++ [(l, N)]) ++ (rl, rn) :: R'), by omega, by go_num, HP2.out, by have := HSL.out; simp; omega, fun h => absurd h (by simp), HO8.out, HBz.out⟩
                case measure => simp [intOf]; omega
    · go_wp2
      go_ret
      exact ⟨.slice a1 S.length c1, S, rfl, part_end HI.out.2.1.nn (by omega) HP.out, HO.out, HB.out⟩
end Go.Proofs.Ythfchkclojnfmaa
