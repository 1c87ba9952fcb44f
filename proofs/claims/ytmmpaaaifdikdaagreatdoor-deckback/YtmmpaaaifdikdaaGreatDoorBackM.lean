/- What is shown is split and told again, plainly. -/
import Derived.Test.YtmmpaaaifdikdaaGreatDoorRead
namespace Go.Proofs.YtmmpaaaifdikdaaGreatDoor
open Go.RowKit Go.Shelf

theorem numV_ok {l : List UInt8} (h : numOk l = true) : numV l = digs l := if_pos h
theorem ib_none : ∀ {l : List UInt8}, (32 : UInt8) ∉ l → Lib.indexByte l 32 = -1
  | [], _ => rfl
  | b :: l, h => by
    have hb : ¬ b = 32 := fun e => h (by simp [e])
    have hl : (32 : UInt8) ∉ l := fun e => h (by simp [e])
    unfold Lib.indexByte
    rw [if_neg (by simpa using hb), ib_none hl]; rfl
theorem ib_some : ∀ {w r : List UInt8}, (32 : UInt8) ∉ w → Lib.indexByte (w ++ 32 :: r) 32 = w.length
  | [], _, _ => rfl
  | b :: w, r, h => by
    have hb : ¬ b = 32 := fun e => h (by simp [e])
    have hl : (32 : UInt8) ∉ w := fun e => h (by simp [e])
    rw [List.cons_append]
    unfold Lib.indexByte
    rw [if_neg (by simpa using hb), ib_some hl, if_neg (by simp)]
    simp
/-- Words without blanks, joined, are split again. -/
theorem splitK_join : ∀ (ws : List (List UInt8)) (w : List UInt8) (k : Nat), (∀ x ∈ w :: ws, (32 : UInt8) ∉ x) → ws.length ≤ k → Lib.splitK [32] 0 k (Lib.join (w :: ws) [32]) = w :: ws
  | [], w, k, h, _ => by
    rw [Lib.join_one]
    cases k with
    | zero => rfl
    | succ k =>
      unfold Lib.splitK
      rw [Lib.index_one, ib_none (h w (by simp))]; rfl
  | x :: ws, w, 0, _, hk => by simp at hk
  | x :: ws, w, k + 1, h, hk => by
    have e : Lib.join (w :: x :: ws) [32] = w ++ 32 :: Lib.join (x :: ws) [32] := by
      rw [Lib.join_cons, Lib.join_cons]
      simp [Lib.joinTail]
    rw [e]
    unfold Lib.splitK
    rw [Lib.index_one, ib_some (h w (by simp)), if_neg (by simp)]
    have h2 : ((w.length : Int).toNat + [(32 : UInt8)].length) = w.length + 1 := by simp
    rw [h2]
    have h3 : (w ++ 32 :: Lib.join (x :: ws) [32]).drop (w.length + 1) = Lib.join (x :: ws) [32] := by
      rw [List.drop_append]; simp
    have h4 : (w ++ 32 :: Lib.join (x :: ws) [32]).take ((w.length : Int).toNat + 0) = w := by simp
    rw [h3, h4, splitK_join ws x k (fun y hy => h y (List.mem_cons_of_mem _ hy)) (by simp at hk; omega)]

/-- Numerals. -/
theorem dec_facts : ∀ u : Nat, (∀ b ∈ Lib.decDigits u, isDig b = true) ∧ digs (Lib.decDigits u) = u ∧ Lib.decDigits u ≠ [] ∧ (1 ≤ u → (Lib.decDigits u).head? ≠ some 48) := by
  intro u
  induction u using Nat.strongRecOn with
  | _ u ih =>
    by_cases h : u < 10
    · rw [Lib.decDigits_one h]
      exact (by decide : ∀ u, u < 10 → (∀ b ∈ [UInt8.ofNat (48 + u)], isDig b = true) ∧ digs [UInt8.ofNat (48 + u)] = u ∧ [UInt8.ofNat (48 + u)] ≠ [] ∧ (1 ≤ u → [UInt8.ofNat (48 + u)].head? ≠ some 48)) u h
    · obtain ⟨i1, i2, i3, i4⟩ := ih (u / 10) (by omega)
      have hd : isDig (UInt8.ofNat (48 + u % 10)) = true ∧ ((UInt8.ofNat (48 + u % 10)).toNat : Int) - 48 = (u % 10 : Nat) :=
        (by decide : ∀ d, d < 10 → isDig (UInt8.ofNat (48 + d)) = true ∧ ((UInt8.ofNat (48 + d)).toNat : Int) - 48 = (d : Nat)) (u % 10) (by omega)
      rw [Lib.decDigits, dif_neg h]
      refine ⟨fun b hb => ?_, ?_, by simp, fun _ => ?_⟩
      · rcases List.mem_append.1 hb with h | h
        · exact i1 b h
        · rw [List.mem_singleton.1 h]; exact hd.1
      · rw [digs_snoc, i2, hd.2]; omega
      · cases e : Lib.decDigits (u / 10) with
        | nil => exact absurd e i3
        | cons x l =>
          have := i4 (by omega)
          rw [e] at this
          simpa using this
theorem dec_short : ∀ (n u : Nat), u < 10 ^ (n + 1) → (Lib.decDigits u).length ≤ n + 1 := by
  intro n
  induction n with
  | zero => intro u h; rw [Lib.decDigits_one (by simpa using h)]; simp
  | succ n ih =>
    intro u h
    by_cases h1 : u < 10
    · rw [Lib.decDigits_one h1]; simp
    · rw [Lib.decDigits, dif_neg h1, List.length_append]
      have := ih (u / 10) (by rw [Nat.pow_succ] at h; omega)
      simp only [List.length_singleton]
      omega
theorem itoa_num {n : Int} (h0 : 0 ≤ n) (h1 : n ≤ 1000000000) : numOk (Lib.itoa n) = true ∧ numV (Lib.itoa n) = n ∧ (32 : UInt8) ∉ Lib.itoa n ∧ (Lib.itoa n).length ≤ 10 ∧ 1 ≤ (Lib.itoa n).length := by
  obtain ⟨u, rfl⟩ := Int.eq_ofNat_of_zero_le h0
  have e : Lib.itoa (u : Int) = Lib.decDigits u := Lib.itoa_nonneg u
  obtain ⟨f1, f2, f3, f4⟩ := dec_facts u
  have hl := dec_short 9 u (by omega)
  have hl1 : 1 ≤ (Lib.decDigits u).length := by
    cases h : Lib.decDigits u with
    | nil => exact absurd h f3
    | cons _ _ => simp
  have hok : numOk (Lib.decDigits u) = true := by
    refine numOk_good hl1 hl ?_ f1
    by_cases hu : 1 ≤ u
    · exact .inr (f4 hu)
    · have : u = 0 := by omega
      subst this
      exact .inl (by rw [Lib.decDigits_one (by decide)]; simp)
  rw [e]
  refine ⟨hok, (numV_ok hok).trans f2, fun h => ?_, hl, hl1⟩
  have := f1 32 h
  revert this; decide
theorem lab_blank {s : ByteArray} (h : lab s = true) : (32 : UInt8) ∉ s.data.toList := by
  intro hm
  obtain ⟨k, hk, e⟩ := List.getElem_of_mem hm
  have hk' : k < s.size := by rw [← lenL]; exact hk
  have h1 : okAt (s[k]'hk') k = false := by
    have h2 := getL hk'
    rw [List.getElem?_eq_getElem hk, e] at h2
    rw [← Option.some.inj h2]
    unfold okAt
    simp
  rw [lab_bad hk' h1] at h
  cases h

/-- The words of a ware that may be. -/
theorem words_fine {a : Wr} (h0 : chk a = 0) : ∃ kd : Nat, ∃ kw, a.kind = kd ∧ 1 ≤ kd ∧ kwL[kd]? = some kw ∧ wordsL a = a.name.data.toList :: kw :: (numsL a).map Lib.itoa ∧ (∀ x ∈ wordsL a, (32 : UInt8) ∉ x ∧ x.length ≤ 16 ∧ 1 ≤ x.length) := by
  have hk13 := inR_iff.1 (chk_in h0).2.1
  obtain ⟨kd, hK⟩ : ∃ kd : Nat, a.kind = kd := ⟨a.kind.toNat, by omega⟩
  have hK3 : kd < 4 := by omega
  obtain ⟨kw, hkw⟩ : ∃ kw, kwL[kd]? = some kw := ⟨kwL[kd]'(by simpa [kwL] using hK3), by simp⟩
  have hg : kwL.getD a.kind.toNat [] = kw := by rw [hK, Int.toNat_natCast, List.getD_eq_getElem?_getD, hkw]; rfl
  have hw : wordsL a = a.name.data.toList :: kw :: (numsL a).map Lib.itoa := by unfold wordsL; rw [hg]
  refine ⟨kd, kw, hK, by omega, hkw, hw, fun x hx => ?_⟩
  rw [hw] at hx
  rcases List.mem_cons.1 hx with e | hx
  · have hl := lab_in (chk_in h0).1
    rw [e]
    exact ⟨lab_blank (chk_in h0).1, by rw [lenL]; exact hl.2, by rw [lenL]; exact hl.1⟩
  · rcases List.mem_cons.1 hx with e | hx
    · rw [e]
      exact (by decide : ∀ k, k < 4 → 1 ≤ k → ∀ x, kwL[k]? = some x → (32 : UInt8) ∉ x ∧ x.length ≤ 16 ∧ 1 ≤ x.length) kd hK3 (by omega) kw hkw
    · obtain ⟨n, hn, rfl⟩ := List.mem_map.1 hx
      have h := chk_nums h0 n hn
      obtain ⟨_, _, f3, f4, f5⟩ := itoa_num h.1 h.2
      exact ⟨f3, by omega, f5⟩
theorem joinTail_ge : ∀ (r : List (List UInt8)), r.length ≤ (Lib.joinTail [32] r).length
  | [] => by simp
  | x :: r => by
    have ih := joinTail_ge r
    simp only [Lib.joinTail, List.map_cons, List.flatten_cons, List.length_append, List.length_cons, List.length_nil] at ih ⊢
    omega
theorem show_size {a : Wr} (h0 : chk a = 0) : (showL a).length < 4294967281 ∧ 12 ≤ (showL a).length := by
  obtain ⟨kd, kw, _, _, _, hw, hf⟩ := words_fine h0
  unfold showL
  rw [hw] at hf ⊢
  rw [Lib.join_cons, List.length_append]
  have h1 := (hf a.name.data.toList (by simp)).2
  have h2 := joinTail_le (kw :: (numsL a).map Lib.itoa) 16 (fun x hx => (hf x (List.mem_cons_of_mem _ hx)).2.1)
  have h3 := joinTail_ge (kw :: (numsL a).map Lib.itoa)
  have h4 : (kw :: (numsL a).map Lib.itoa).length = 11 := by simp [numsL]
  rw [h4] at h2 h3
  omega
theorem wordsB_show {a : Wr} (h0 : chk a = 0) : ∃ kw, kindN kw = a.kind ∧ kw.length ≤ 16 ∧ wordsB ⟨(showL a).toArray⟩ = a.name :: ⟨kw.toArray⟩ :: (numsL a).map itoaA := by
  obtain ⟨kd, kw, hk, hk1, hkw, hw, hf⟩ := words_fine h0
  refine ⟨kw, by rw [hk]; exact kindN_hit hkw, (hf kw (by rw [hw]; simp)).2.1, ?_⟩
  have hs := show_size h0
  have hsz : (⟨(showL a).toArray⟩ : ByteArray).size = (showL a).length := by simp [ByteArray.size]
  have hm : (wordsB ⟨(showL a).toArray⟩).map (·.data.toList) = wordsL a := by
    unfold wordsB
    rw [Lib.splitB_data, hsz, show min 13 ((showL a).length + 1) - 1 = 12 by omega]
    show Lib.splitK [32] 0 12 (showL a) = _
    unfold showL
    rw [hw] at hf ⊢
    exact splitK_join _ _ 12 (fun x hx => (hf x hx).1) (by simp [numsL])
  have hinj : ∀ (l m : List ByteArray), l.map (·.data.toList) = m.map (·.data.toList) → l = m := by
    intro l
    induction l with
    | nil => intro m h; cases m with
      | nil => rfl
      | cons _ _ => simp at h
    | cons x l ih =>
      intro m h
      cases m with
      | nil => simp at h
      | cons y m =>
        simp only [List.map_cons, List.cons.injEq] at h
        rw [ih m h.2, show x = y from ByteArray.ext (Array.ext' h.1)]
  apply hinj
  rw [hm, hw]
  simp [itoaA]
theorem pW_show (a : Wr) (x1 : ByteArray) (hk : kindN x1.data.toList = a.kind) (hn : ∀ n ∈ numsL a, numV (Lib.itoa n) = n) : pW a.name x1 ((numsL a).map itoaA) = a := by
  obtain ⟨nm, k, r, c, x, y, p, wd, l, h, d, cp⟩ := a
  simp only [numsL, List.mem_cons, List.not_mem_nil, or_false, forall_eq_or_imp, forall_eq] at hn
  obtain ⟨n0, n1, n2, n3, n4, n5, n6, n7, n8, n9⟩ := hn
  simp [pW, fillN, setN, numsL, itoaA, hk, n0, n1, n2, n3, n4, n5, n6, n7, n8, n9]
/-- What is shown is read again. -/
theorem read_show (a : Wr) (w : World) (h0 : chk a = 0) (hT : Tabs w) :
    Calls Tryz.prog 83 #[.string ⟨(showL a).toArray⟩] w fun e w' => e = .returned (.tuple #[wv a, .int .i64 0]) ∧ Below w.heap.size w w' := by
  obtain ⟨kw, hk, hkl, hws⟩ := wordsB_show h0
  have hs := show_size h0
  have hl := (chk_in h0).1
  have hl16 := (lab_in hl).2
  have hk13 := inR_iff.1 (chk_in h0).2.1
  have hnum := chk_nums h0
  have hok : pOk a.name ⟨kw.toArray⟩ ((numsL a).map itoaA) = true := by
    have h1 : (((numsL a).map itoaA).all fun x => numOk x.data.toList) = true := by
      rw [List.all_eq_true]
      intro x hx
      obtain ⟨n, hn, rfl⟩ := List.mem_map.1 hx
      exact (itoa_num (hnum n hn).1 (hnum n hn).2).1
    have h2 : (kindN kw == 0) = false := by rw [hk, beq_eq_false_iff_ne]; omega
    simp only [pOk, hl, h1]
    simp [h2]
  have hpw : pW a.name ⟨kw.toArray⟩ ((numsL a).map itoaA) = a := pW_show a _ (by simpa using hk) fun n hn => (itoa_num (hnum n hn).1 (hnum n hn).2).2.1
  refine read_ok _ w hT a (by unfold maxLen; omega) (fun w' hT' => ?_) h0
  refine (parse_12 _ w' (by simpa [ByteArray.size] using hs.1) hT' a.name ⟨kw.toArray⟩ ((numsL a).map itoaA) hws (by simp [numsL]) ?_).mono ?_
  · rw [hws]
    intro x hx
    rcases List.mem_cons.1 hx with e | hx
    · rw [e]; unfold maxLen; omega
    · rcases List.mem_cons.1 hx with e | hx
      · rw [e]; simp only [ByteArray.size, List.size_toArray]; unfold maxLen; omega
      · obtain ⟨n, hn, rfl⟩ := List.mem_map.1 hx
        have := (itoa_num (hnum n hn).1 (hnum n hn).2).2.2.2.1
        simp only [itoaA, ByteArray.size, List.size_toArray]; unfold maxLen; omega
  · rintro e w2 ⟨g, he, hg, hb⟩
    rw [hok] at he
    rw [hg hok, hpw] at he
    exact ⟨he, hb⟩
end Go.Proofs.YtmmpaaaifdikdaaGreatDoor
