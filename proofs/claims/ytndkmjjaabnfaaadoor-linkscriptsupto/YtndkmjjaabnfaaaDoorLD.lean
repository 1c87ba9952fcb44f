/- ReadScript walked. -/
import Derived.Test.YtndkmjjaabnfaaaDoorLB
namespace Go.Proofs.YtndkmjjaabnfaaaDoor
open Go.RowKit Go.Shelf

theorem turn_bad {d : List UInt8} (hd : ∀ b ∈ d, isDig b = true) (hne : d ≠ []) (h : numD d < 3 ∨ 5 < d.length) : turn d = none := by
  unfold turn
  by_cases h5 : 5 < d.length
  · rw [if_pos (.inr (.inl h5))]
  · have hn : numD d < 3 := h.resolve_right h5
    by_cases h48 : d.head? = some 48
    · rw [if_pos (.inr (.inr (.inl h48)))]
    · have hk : numOk d = true := numOk_good (List.length_pos_iff.2 hne) (by omega) (.inr h48) hd
      unfold numD at hn
      rw [if_pos hk] at hn
      rw [if_pos (.inr (.inr (.inr hn)))]
theorem turn_good {d : List UInt8} (hd : ∀ b ∈ d, isDig b = true) (hne : d ≠ []) (h : 3 ≤ numD d) (h5 : d.length ≤ 5) : turn d = some (numD d) := by
  have hk : numOk d = true := by
    cases e : numOk d with
    | true => rfl
    | false => rw [numD_no e] at h; omega
  have hv : numD d = digs d := by unfold numD; rw [if_pos hk]
  have h48 : d.head? ≠ some 48 := by
    intro e
    by_cases h1 : 1 < d.length
    · rw [numOk_zero h1 e] at hk; cases hk
    · cases d with
      | nil => exact hne rfl
      | cons c t =>
        have h1' : ¬ 1 < t.length + 1 := h1
        have : t = [] := List.eq_nil_of_length_eq_zero (by omega)
        subst this
        simp at e
        subst e
        rw [hv] at h
        exact absurd h (by decide)
  unfold turn
  rw [if_neg (fun x => x.elim hne fun x => x.elim (fun x => absurd x (by omega)) fun x => x.elim h48 fun x => by rw [hv] at h; omega), hv]
theorem drop_at {s : ByteArray} {k : Nat} (h : k < s.size) : s.data.toList.drop k = (s[k]'h) :: s.data.toList.drop (k + 1) := by
  have h1 : k < s.data.toList.length := by rw [lenL]; exact h
  rw [List.drop_eq_getElem_cons h1]
  have h2 := getL h
  rw [List.getElem?_eq_getElem h1] at h2
  rw [Option.some.inj h2]
theorem tok_dot (t : List UInt8) : tok (46 :: t) = some (0, t) := rfl
theorem tok_x (t : List UInt8) : tok (120 :: t) = some (1, t) := rfl
theorem tok_a (t : List UInt8) : tok (97 :: t) = some (2, t) := rfl
theorem tok_else {c : UInt8} {t : List UInt8} (h1 : c ≠ 46) (h2 : c ≠ 120) (h3 : c ≠ 97) (hd : isDig c = false) : tok (c :: t) = none := by
  rw [tok_cons, if_neg h1, if_neg h2, if_neg h3]
  rw [List.takeWhile_cons, if_neg (by simp [hd])]
  rfl
theorem tok_dig {c : UInt8} {t : List UInt8} (hd : isDig c = true) : tok (c :: t) = match turn ((c :: t).takeWhile isDig) with
      | none => none
      | some n => some (n, (c :: t).dropWhile isDig) := by
  have h := (isDig_iff c).1 hd
  have f : ∀ m : UInt8, 57 < m.toNat ∨ m.toNat < 48 → c ≠ m := fun m hm e => by rw [e] at h; omega
  rw [tok_cons, if_neg (f 46 (by decide)), if_neg (f 120 (by decide)), if_neg (f 97 (by decide))]
  cases turn ((c :: t).takeWhile isDig) <;> rfl
theorem tok_dig_no {c : UInt8} {t : List UInt8} (hd : isDig c = true) (h : turn ((c :: t).takeWhile isDig) = none) : tok (c :: t) = none := by rw [tok_dig hd, h]
theorem tok_dig_yes {c : UInt8} {t : List UInt8} {n : Int} (hd : isDig c = true) (h : turn ((c :: t).takeWhile isDig) = some n) : tok (c :: t) = some (n, (c :: t).dropWhile isDig) := by rw [tok_dig hd, h]
/-- Digits from a place on, up to one that is none, or the end. -/
theorem tw_piece {L : List UInt8} {i k : Nat} (hik : i ≤ k) (hall : ∀ j b, i ≤ j → j < k → L[j]? = some b → isDig b = true) (hend : ∀ b, L[k]? = some b → isDig b = false) :
    (L.drop i).takeWhile isDig = (L.drop i).take (k - i) ∧ (L.drop i).dropWhile isDig = L.drop k := by
  have e : L.drop i = (L.drop i).take (k - i) ++ L.drop k := by
    have := (List.take_append_drop (k - i) (L.drop i)).symm
    rwa [List.drop_drop, show i + (k - i) = k by omega] at this
  have hA : ∀ b ∈ (L.drop i).take (k - i), isDig b = true := by
    intro b hb
    obtain ⟨j, hj, hjb⟩ := List.mem_iff_getElem.1 hb
    have hj2 : j < k - i := by rw [List.length_take] at hj; omega
    have := List.getElem?_eq_getElem hj
    rw [List.getElem?_take, if_pos hj2, List.getElem?_drop, hjb] at this
    exact hall (i + j) b (by omega) (by omega) this
  have hB : ∀ b, (L.drop k).head? = some b → isDig b = false := by
    intro b hb
    rw [List.head?_eq_getElem?, List.getElem?_drop] at hb
    exact hend b hb
  constructor
  · conv => lhs; rw [e]
    rw [List.takeWhile_append_of_pos hA]
    cases h : L.drop k with
    | nil => simp
    | cons b t =>
      rw [List.takeWhile_cons, if_neg (by rw [hB b (by rw [h]; rfl)]; simp)]
      simp
  · conv => lhs; rw [e]
    rw [List.dropWhile_append_of_pos hA]
    cases h : L.drop k with
    | nil => simp
    | cons b t => rw [List.dropWhile_cons, if_neg (by rw [hB b (by rw [h]; rfl)]; simp)]
theorem ext_piece {s : ByteArray} {i k : Nat} : (s.extract i k).data.toList = (s.data.toList.drop i).take (k - i) := by
  have h := Lib.extract_eq s i k
  rw [h]
/-- What a script's reading answers. -/
def ScP (l : List UInt8) (w : World) (e : Ending) (w' : World) : Prop := ∃ ao cap, e = .returned (.tuple #[.slice ao (scrL l).length cap, .int .i64 (scrE l)]) ∧ RdI w' ao (scrL l) ∧ Below w.heap.size w w'
/-- What ReadScript keeps, at the head of its loop. -/
structure RsI (s : ByteArray) (w : World) (v i : Value) (wr : World) : Prop where
  it : ∃ (vs : List Int) (k : Nat), i = .int .i64 (k : Nat) ∧ k ≤ s.size ∧ vs.length ≤ k ∧ More s.data.toList vs (s.data.toList.drop k) ∧ OwnR encI wr w.heap.size v vs
  bel : Below w.heap.size w wr
set_option maxHeartbeats 12800000 in
set_option maxRecDepth 100000 in
theorem readScript_any (s : ByteArray) (w : World) (hl : s.size ≤ 1048576) : Calls Tryd.prog 9 #[.string s] w fun e w' => ScP s.data.toList w e w' := by
  go_enter Tryd.func9, Tryd.ntmps9
  go_wp2_with fail
  go_loopw [4, 5] (fun v i wr => RsI s w v i wr) (fun _ i _ => s.size - (intOf i).toNat)
  case atStart => exact ⟨⟨[], 0, rfl, Nat.zero_le _, Nat.zero_le _, More.zero _, OwnR.nil _ _ _⟩, Below.refl _ _⟩
  case round =>
    obtain ⟨⟨vs, pos, rfl, hpos, hvs, hmore, hown⟩, hbel⟩ := hrel
    have HMo : Hid (More s.data.toList vs (s.data.toList.drop pos)) := hmore
    have HO : Hid (OwnR encI wr w.heap.size _ vs) := hown
    have HBe : Hid (Below w.heap.size w wr) := hbel
    clear hmore hown hbel
    obtain ⟨ao, cap, hv⟩ := HO.out.shape
    subst hv
    by_cases hp : pos < s.size
    · have HDr : Hid (s.data.toList.drop pos = (s[pos]'hp) :: s.data.toList.drop (pos + 1)) := drop_at hp
      have HG : Hid (s.data.toList[pos]? = some (s[pos]'hp)) := getL hp
      obtain ⟨c, hc⟩ : ∃ c : UInt8, s[pos]'hp = c := ⟨_, rfl⟩
      have HC : Hid (s[pos]'hp = c) := hc
      rw [hc] at HDr HG
      rw [HDr.out] at HMo
      clear hc
      have hcx : ((s[pos]'hp).toNat : Int) = (c.toNat : Int) := by rw [HC.out]
      by_cases hd : 48 ≤ c.toNat ∧ c.toNat ≤ 57
      · obtain ⟨l1, l2⟩ := hd
        have HDg : Hid (isDig c = true) := (isDig_iff c).2 ⟨l1, l2⟩
        go_wp2_with (go_at_call 19; refine (digit_yes _ _ (by omega) (by omega)).mono ?_; rintro e w' ⟨rfl, hw⟩; subst w')
        go_loopw [6] (fun q wq => ∃ k : Nat, pos ≤ k ∧ k ≤ s.size ∧ q = .int .i64 (k : Nat) ∧ (∀ j b, pos ≤ j → j < k → s.data.toList[j]? = some b → isDig b = true) ∧ wq = wr) (fun q _ => s.size - (intOf q).toNat)
        case atStart => exact ⟨pos, Nat.le_refl _, by omega, rfl, (fun j b a h => absurd a (by omega)), rfl⟩
        case round =>
          obtain ⟨k, hik, hk, rfl, hall, hw⟩ := hrel
          rename World => wq
          subst wq
          have HA : Hid (∀ j b, pos ≤ j → j < k → s.data.toList[j]? = some b → isDig b = true) := hall
          clear hall
          by_cases hgo : ∃ h : k < s.size, 48 ≤ (s[k]'h).toNat ∧ (s[k]'h).toNat ≤ 57
          · obtain ⟨hks, g1, g2⟩ := hgo
            have HX : Hid (∀ j b, pos ≤ j → j < k + 1 → s.data.toList[j]? = some b → isDig b = true) := fun j b a h e => by
              by_cases ej : j = k
              · subst ej
                rw [getL hks] at e
                obtain rfl := Option.some.inj e
                exact (isDig_iff _).2 ⟨g1, g2⟩
              · exact HA.out j b a (by omega) e
            obtain ⟨x, hx⟩ : ∃ x : UInt8, s[k]'hks = x := ⟨_, rfl⟩
            rw [hx] at g1 g2
            go_wp2_with (go_at_call 19; refine (digit_yes _ _ (by omega) (by omega)).mono ?_; rintro e w' ⟨rfl, hw⟩; subst w')
            go_roundw
            case rel => exact ⟨k + 1, by omega, by omega, by go_num, HX.out, trivial⟩
            case measure => simp [intOf]; omega
          · have HEnd : Hid (∀ b, s.data.toList[k]? = some b → isDig b = false) := by
              intro b hb
              by_cases hks : k < s.size
              · rw [getL hks] at hb
                obtain rfl := Option.some.inj hb
                cases e : isDig (s[k]'hks) with
                | false => rfl
                | true => exact absurd ⟨hks, (isDig_iff _).1 e⟩ hgo
              · rw [List.getElem?_eq_none (by rw [lenL]; omega)] at hb
                cases hb
            have HTw := tw_piece (L := s.data.toList) hik HA.out HEnd.out
            obtain ⟨d, hdd⟩ : ∃ d, d = (s.data.toList.drop pos).take (k - pos) := ⟨_, rfl⟩
            have HE1 : Hid ((c :: s.data.toList.drop (pos + 1)).takeWhile isDig = d) := by show _ = _; rw [← HDr.out, HTw.1, hdd]
            have HE2 : Hid ((c :: s.data.toList.drop (pos + 1)).dropWhile isDig = s.data.toList.drop k) := by show _ = _; rw [← HDr.out, HTw.2]
            have HEx : Hid ((s.extract pos k).data.toList = d) := by show _ = _; rw [ext_piece, hdd]
            have hdl : d.length = k - pos := by rw [hdd, List.length_take, List.length_drop, lenL]; omega
            have HAd : Hid (∀ b ∈ d, isDig b = true) := by rw [← HE1.out]; exact tw_digs _
            have HNe : Hid (d ≠ []) := by
              rw [← HE1.out, List.takeWhile_cons, if_pos HDg.out]
              exact List.cons_ne_nil _ _
            have HDi : Hid (∀ W, Calls Tryd.prog 20 #[.string (s.extract pos k)] W fun e w' => e = .returned (.int .i64 (numD d)) ∧ w' = W) := fun W => by
              have h := digitsOf_any (s.extract pos k) W (by rw [← lenL, HEx.out, hdl]; unfold maxLen; omega)
              rw [HEx.out] at h
              exact h
            have HBad : Hid (numD d < 3 ∨ 5 < d.length → rd s.data.toList = none) := fun h => HMo.out.bad (by intro e; rw [e] at l1; exact absurd l1 (by decide)) (tok_dig_no HDg.out (by rw [HE1.out]; exact turn_bad HAd.out HNe.out h))
            have HGood : Hid (3 ≤ numD d → d.length ≤ 5 → More s.data.toList (vs ++ [numD d]) (s.data.toList.drop k)) := fun h h5 => HMo.out.next (by intro e; rw [e] at l1; exact absurd l1 (by decide)) (by rw [tok_dig_yes HDg.out (n := numD d) (by rw [HE1.out]; exact turn_good HAd.out HNe.out h h5), HE2.out])
            have HPos : Hid (0 < d.length) := List.length_pos_iff.2 HNe.out
            have hpk : pos < k := by have := HPos.out; omega
            have h5i : ((k : Int) - (pos : Int)) = (d.length : Int) := by omega
            generalize numD d = n at *
            clear hdd HE1 HE2 HEx HTw HDr HG
            have hx : k = s.size ∨ ∃ h : k < s.size, (((s[k]'h).toNat : Int) < 48 ∨ 57 < ((s[k]'h).toNat : Int)) := by
              by_cases hks : k < s.size
              · refine .inr ⟨hks, ?_⟩
                by_cases g : 48 ≤ (s[k]'hks).toNat ∧ (s[k]'hks).toNat ≤ 57
                · exact absurd ⟨hks, g⟩ hgo
                · omega
              · exact .inl (by omega)
            clear hgo HEnd
            by_cases hbad : n < 3 ∨ 5 < d.length
            · have HRn : Hid (rd s.data.toList = none) := HBad.out hbad
              have HE : Hid (scrL s.data.toList = [] ∧ scrE s.data.toList = 1) := scr_none HRn.out
              by_cases hn3 : n < 3
              · rcases hx with rfl | ⟨hks, hx⟩
                · go_wp2_with fail
                  refine (HDi.out _).mono ?_
                  rintro e w1 ⟨rfl, hw⟩
                  subst w1
                  go_wp2
                  exact bodyPost_ret (v := .tuple #[.slice none 0 0, .int .i64 1]) (by simp [results, Tryd.results9, go_sem]) rfl ⟨none, 0, by rw [HE.out.1, HE.out.2]; rfl, .inl HE.out.1, HBe.out⟩
                · obtain ⟨x, hxx⟩ : ∃ x : UInt8, s[k]'hks = x := ⟨_, rfl⟩
                  rw [hxx] at hx
                  go_wp2_with (go_at_call 19; refine (digit_no _ _ hx).mono ?_; rintro e w' ⟨rfl, hw⟩; subst w')
                  refine (HDi.out _).mono ?_
                  rintro e w1 ⟨rfl, hw⟩
                  subst w1
                  go_wp2
                  exact bodyPost_ret (v := .tuple #[.slice none 0 0, .int .i64 1]) (by simp [results, Tryd.results9, go_sem]) rfl ⟨none, 0, by rw [HE.out.1, HE.out.2]; rfl, .inl HE.out.1, HBe.out⟩
              · have h5 : (5 : Int) < (k : Int) - (pos : Int) := by have := hbad.resolve_left hn3; omega
                rcases hx with rfl | ⟨hks, hx⟩
                · go_wp2_with fail
                  refine (HDi.out _).mono ?_
                  rintro e w1 ⟨rfl, hw⟩
                  subst w1
                  go_wp2
                  exact bodyPost_ret (v := .tuple #[.slice none 0 0, .int .i64 1]) (by simp [results, Tryd.results9, go_sem]) rfl ⟨none, 0, by rw [HE.out.1, HE.out.2]; rfl, .inl HE.out.1, HBe.out⟩
                · obtain ⟨x, hxx⟩ : ∃ x : UInt8, s[k]'hks = x := ⟨_, rfl⟩
                  rw [hxx] at hx
                  go_wp2_with (go_at_call 19; refine (digit_no _ _ hx).mono ?_; rintro e w' ⟨rfl, hw⟩; subst w')
                  refine (HDi.out _).mono ?_
                  rintro e w1 ⟨rfl, hw⟩
                  subst w1
                  go_wp2
                  exact bodyPost_ret (v := .tuple #[.slice none 0 0, .int .i64 1]) (by simp [results, Tryd.results9, go_sem]) rfl ⟨none, 0, by rw [HE.out.1, HE.out.2]; rfl, .inl HE.out.1, HBe.out⟩
            · have hn3 : ¬ n < 3 := fun h => hbad (.inl h)
              have h5' : d.length ≤ 5 := Nat.not_lt.1 fun h => hbad (.inr h)
              have h5 : ¬ (5 : Int) < (k : Int) - (pos : Int) := by omega
              have HMn : Hid (More s.data.toList (vs ++ [n]) (s.data.toList.drop k)) := HGood.out (by omega) h5'
              have hz2 := HBe.out.size
              have HBB : Hid (Below w.heap.size w (wr.alloc (.cells #[.int .i64 n] 3))) := HBe.out.alloc hz2 _
              have HZ : Hid (w.heap.size ≤ (wr.alloc (.cells #[.int .i64 n] 3)).heap.size) := HBB.out.size
              rcases hx with rfl | ⟨hks, hx⟩
              · go_wp2_with fail
                refine (HDi.out _).mono ?_
                rintro e w1 ⟨rfl, hw⟩
                subst w1
                go_wp2_with (at_builtin; refine wpList_append_row goodI Tryd.underlying22 infoI rfl (by decide) (by decide) _ rfl (.tmp 42) (.tmp 44) rfl w.heap.size (.slice ao vs.length cap) vs rfl (HO.out.alloc _) wr.heap.size (n) rfl (fun j u hu => (Bk.new wr [.int .i64 (n)] 3 wr.heap.size rfl).c j hu) (by omega) HZ.out ?_; intro v' w3 ho hg hloc)
                have HB3 : Hid (Below w.heap.size w w3) := below_row HBB.out (HO.out.alloc _) hg HZ.out
                have HO3 : Hid (OwnR encI w3 w.heap.size v' (vs ++ [n])) := ho
                clear ho hg hloc HBB HZ hz2
                go_wp2
                go_roundw
                case rel => exact ⟨⟨vs ++ [n], _, rfl, Nat.le_refl _, by simp; omega, HMn.out, HO3.out⟩, HB3.out⟩
                case measure => simp [intOf]; omega
              · obtain ⟨x, hxx⟩ : ∃ x : UInt8, s[k]'hks = x := ⟨_, rfl⟩
                rw [hxx] at hx
                go_wp2_with (go_at_call 19; refine (digit_no _ _ hx).mono ?_; rintro e w' ⟨rfl, hw⟩; subst w')
                refine (HDi.out _).mono ?_
                rintro e w1 ⟨rfl, hw⟩
                subst w1
                go_wp2_with (at_builtin; refine wpList_append_row goodI Tryd.underlying22 infoI rfl (by decide) (by decide) _ rfl (.tmp 42) (.tmp 44) rfl w.heap.size (.slice ao vs.length cap) vs rfl (HO.out.alloc _) wr.heap.size (n) rfl (fun j u hu => (Bk.new wr [.int .i64 (n)] 3 wr.heap.size rfl).c j hu) (by omega) HZ.out ?_; intro v' w3 ho hg hloc)
                have HB3 : Hid (Below w.heap.size w w3) := below_row HBB.out (HO.out.alloc _) hg HZ.out
                have HO3 : Hid (OwnR encI w3 w.heap.size v' (vs ++ [n])) := ho
                clear ho hg hloc HBB HZ hz2
                go_wp2
                go_roundw
                case rel => exact ⟨⟨vs ++ [n], k, rfl, hk, by simp; omega, HMn.out, HO3.out⟩, HB3.out⟩
                case measure => simp [intOf]; omega
      · have HDg : Hid (isDig c = false) := by
          show _ = _
          cases e : isDig c with
          | false => rfl
          | true => exact absurd ((isDig_iff c).1 e) hd
        have hdn : (c.toNat : Int) < 48 ∨ 57 < (c.toNat : Int) := by omega
        clear hd
        by_cases h46 : c = 46
        · subst h46
          have HMn : Hid (More s.data.toList (vs ++ [0]) (s.data.toList.drop (pos + 1))) := HMo.out.next (by decide) (tok_dot _)
          have hz2 := HBe.out.size
          have HBB : Hid (Below w.heap.size w (wr.alloc (.cells #[.int .i64 (0)] 3))) := HBe.out.alloc hz2 _
          have HZ : Hid (w.heap.size ≤ (wr.alloc (.cells #[.int .i64 (0)] 3)).heap.size) := HBB.out.size
          clear HMo HDr HG
          go_wp2_with (first | (go_at_call 19; refine (digit_no _ _ (by first | exact hdn | (left; decide) | (right; decide) | omega)).mono ?_; rintro e w1 ⟨rfl, hw⟩; subst w1) | (at_builtin; refine wpList_append_row goodI Tryd.underlying22 infoI rfl (by decide) (by decide) _ rfl (.tmp 51) (.tmp 52) rfl w.heap.size (.slice ao vs.length cap) vs rfl (HO.out.alloc _) wr.heap.size (0) rfl (fun j u hu => (Bk.new wr [.int .i64 (0)] 3 wr.heap.size rfl).c j hu) (by omega) HZ.out ?_; intro v' w3 ho hg hloc))
          have HB3 : Hid (Below w.heap.size w w3) := below_row HBB.out (HO.out.alloc _) hg HZ.out
          have HO3 : Hid (OwnR encI w3 w.heap.size v' (vs ++ [0])) := ho
          clear ho hg hloc HBB HZ hz2
          go_wp2
          go_roundw
          case rel => exact ⟨⟨vs ++ [0], pos + 1, by go_num, by omega, by simp; omega, HMn.out, HO3.out⟩, HB3.out⟩
          case measure => simp [intOf]; omega
        have n46 : ((c.toNat : Int) == 46) = false := by
          have : c.toNat ≠ 46 := fun e => h46 (UInt8.toNat.inj e)
          simp; omega
        by_cases h120 : c = 120
        · subst h120
          have HMn : Hid (More s.data.toList (vs ++ [1]) (s.data.toList.drop (pos + 1))) := HMo.out.next (by decide) (tok_x _)
          have hz2 := HBe.out.size
          have HBB : Hid (Below w.heap.size w (wr.alloc (.cells #[.int .i64 (1)] 3))) := HBe.out.alloc hz2 _
          have HZ : Hid (w.heap.size ≤ (wr.alloc (.cells #[.int .i64 (1)] 3)).heap.size) := HBB.out.size
          clear HMo HDr HG
          go_wp2_with (first | (go_at_call 19; refine (digit_no _ _ (by first | exact hdn | (left; decide) | (right; decide) | omega)).mono ?_; rintro e w1 ⟨rfl, hw⟩; subst w1) | (at_builtin; refine wpList_append_row goodI Tryd.underlying22 infoI rfl (by decide) (by decide) _ rfl (.tmp 58) (.tmp 59) rfl w.heap.size (.slice ao vs.length cap) vs rfl (HO.out.alloc _) wr.heap.size (1) rfl (fun j u hu => (Bk.new wr [.int .i64 (1)] 3 wr.heap.size rfl).c j hu) (by omega) HZ.out ?_; intro v' w3 ho hg hloc))
          have HB3 : Hid (Below w.heap.size w w3) := below_row HBB.out (HO.out.alloc _) hg HZ.out
          have HO3 : Hid (OwnR encI w3 w.heap.size v' (vs ++ [1])) := ho
          clear ho hg hloc HBB HZ hz2
          go_wp2
          go_roundw
          case rel => exact ⟨⟨vs ++ [1], pos + 1, by go_num, by omega, by simp; omega, HMn.out, HO3.out⟩, HB3.out⟩
          case measure => simp [intOf]; omega
        have n120 : ((c.toNat : Int) == 120) = false := by
          have : c.toNat ≠ 120 := fun e => h120 (UInt8.toNat.inj e)
          simp; omega
        by_cases h97 : c = 97
        · subst h97
          have HMn : Hid (More s.data.toList (vs ++ [2]) (s.data.toList.drop (pos + 1))) := HMo.out.next (by decide) (tok_a _)
          have hz2 := HBe.out.size
          have HBB : Hid (Below w.heap.size w (wr.alloc (.cells #[.int .i64 (2)] 3))) := HBe.out.alloc hz2 _
          have HZ : Hid (w.heap.size ≤ (wr.alloc (.cells #[.int .i64 (2)] 3)).heap.size) := HBB.out.size
          clear HMo HDr HG
          go_wp2_with (first | (go_at_call 19; refine (digit_no _ _ (by first | exact hdn | (left; decide) | (right; decide) | omega)).mono ?_; rintro e w1 ⟨rfl, hw⟩; subst w1) | (at_builtin; refine wpList_append_row goodI Tryd.underlying22 infoI rfl (by decide) (by decide) _ rfl (.tmp 65) (.tmp 66) rfl w.heap.size (.slice ao vs.length cap) vs rfl (HO.out.alloc _) wr.heap.size (2) rfl (fun j u hu => (Bk.new wr [.int .i64 (2)] 3 wr.heap.size rfl).c j hu) (by omega) HZ.out ?_; intro v' w3 ho hg hloc))
          have HB3 : Hid (Below w.heap.size w w3) := below_row HBB.out (HO.out.alloc _) hg HZ.out
          have HO3 : Hid (OwnR encI w3 w.heap.size v' (vs ++ [2])) := ho
          clear ho hg hloc HBB HZ hz2
          go_wp2
          go_roundw
          case rel => exact ⟨⟨vs ++ [2], pos + 1, by go_num, by omega, by simp; omega, HMn.out, HO3.out⟩, HB3.out⟩
          case measure => simp [intOf]; omega
        have n97 : ((c.toNat : Int) == 97) = false := by
          have : c.toNat ≠ 97 := fun e => h97 (UInt8.toNat.inj e)
          simp; omega
        by_cases h32 : c = 32
        · subst h32
          have HMn : Hid (More s.data.toList vs (s.data.toList.drop (pos + 1))) := HMo.out.blank
          clear HMo HDr HG
          go_wp2_with (go_at_call 19; refine (digit_no _ _ (by first | exact hdn | (left; decide) | (right; decide) | omega)).mono ?_; rintro e w' ⟨rfl, hw⟩; subst w')
          go_roundw
          case rel => exact ⟨⟨vs, pos + 1, by go_num, by omega, by omega, HMn.out, HO.out⟩, HBe.out⟩
          case measure => simp [intOf]; omega
        have n32 : ((c.toNat : Int) == 32) = false := by
          have : c.toNat ≠ 32 := fun e => h32 (UInt8.toNat.inj e)
          simp; omega
        have HRn : Hid (rd s.data.toList = none) := HMo.out.bad h32 (tok_else h46 h120 h97 HDg.out)
        have HE : Hid (scrL s.data.toList = [] ∧ scrE s.data.toList = 1) := scr_none HRn.out
        clear HMo HDr HG h46 h120 h97 h32
        go_wp2_with (go_at_call 19; refine (digit_no _ _ hdn).mono ?_; rintro e w' ⟨rfl, hw⟩; subst w')
        exact bodyPost_ret (v := .tuple #[.slice none 0 0, .int .i64 1]) (by simp [results, Tryd.results9, go_sem]) rfl ⟨none, 0, by rw [HE.out.1, HE.out.2]; rfl, .inl HE.out.1, HBe.out⟩
    · have HD : Hid (rd s.data.toList = some vs) := by
        have h := HMo.out
        rw [List.drop_of_length_le (by rw [lenL]; omega)] at h
        exact h.done
      obtain ⟨ao2, cap2, he2, hr2⟩ := own_rd HO.out
      have HR : Hid (RdI wr ao vs) := by
        show RdI _ _ _
        simp only [Value.slice.injEq] at he2
        rw [he2.1]; exact hr2
      clear he2 hr2
      by_cases hbig : 2000 < vs.length
      · have HE : Hid (scrL s.data.toList = [] ∧ scrE s.data.toList = 8) := scr_long HD.out hbig
        have h2 : (2000 : Int) < (vs.length : Int) := by omega
        go_wp2
        exact bodyPost_ret (v := .tuple #[.slice none 0 0, .int .i64 8]) (by simp [results, Tryd.results9, go_sem]) rfl ⟨none, 0, by rw [HE.out.1, HE.out.2]; rfl, .inl HE.out.1, HBe.out⟩
      · have HE : Hid (scrL s.data.toList = vs ∧ scrE s.data.toList = 0) := scr_ok HD.out hbig
        have h2 : ¬ (2000 : Int) < (vs.length : Int) := by omega
        go_wp2
        exact bodyPost_ret (v := .tuple #[.slice ao vs.length cap, .int .i64 0]) (by simp [results, Tryd.results9, go_sem]) rfl ⟨ao, cap, by rw [HE.out.1, HE.out.2], by rw [HE.out.1]; exact HR.out, HBe.out⟩
end Go.Proofs.YtndkmjjaabnfaaaDoor
