/- The line of a seat; readNumber walked. -/
import Derived.Test.YtmmpaaaifdikdaaGreatDoorBackM
import Derived.Test.YtmmpaaaifdikdaaGreatDoorDE
import Derived.Test.YtmmpaaaifdikdaaGreatDoorDF
import Derived.Lib.AtoiErrMem
namespace Go.Proofs.YtmmpaaaifdikdaaGreatDoor
open Go.RowKit Go.Shelf

theorem lab_nl {s : ByteArray} (h : lab s = true) : (10 : UInt8) ∉ s.data.toList := by
  intro hm
  obtain ⟨k, hk, e⟩ := List.getElem_of_mem hm
  have hk' : k < s.size := by rw [← lenL]; exact hk
  have h1 : okAt (s[k]'hk') k = false := by
    have h2 := getL hk'
    rw [List.getElem?_eq_getElem hk, e] at h2
    rw [← Option.some.inj h2]
    unfold okAt
    simp
  rw [lab_bad hk' h1] at h
  cases h
theorem itoa_nl {n : Int} (h0 : 0 ≤ n) : (10 : UInt8) ∉ Lib.itoa n := by
  intro h
  unfold Lib.itoa at h
  rw [if_neg (by omega)] at h
  have := (dec_facts n.toNat).1 10 h
  revert this; decide
/-- The words of a seat's line. -/
def lwords (s : Sit) : List (List UInt8) := Lib.itoa s.slot :: s.name.data.toList :: wordsL s.ware
def lineL (s : Sit) : List UInt8 := Lib.join (lwords s) [32]
theorem lwords_fine {s : Sit} (hp : plc s = 0) (h0 : chk s.ware = 0) : (lwords s).length = 14 ∧ ∀ x ∈ lwords s, ((32 : UInt8) ∉ x ∧ (10 : UInt8) ∉ x) ∧ x.length ≤ 16 ∧ 1 ≤ x.length := by
  obtain ⟨p1, p2, p3⟩ := plc_in hp
  obtain ⟨kd, kw, hk, hk1, hkw, hw, hf⟩ := words_fine h0
  have hn := itoa_num (n := s.slot) (by omega) (by omega)
  refine ⟨by unfold lwords; rw [hw]; simp [numsL], fun x hx => ?_⟩
  unfold lwords at hx
  rcases List.mem_cons.1 hx with e | hx
  · rw [e]; exact ⟨⟨hn.2.2.1, itoa_nl (by omega)⟩, by omega, hn.2.2.2.2⟩
  rcases List.mem_cons.1 hx with e | hx
  · have hl := lab_in p3
    rw [e]; exact ⟨⟨lab_blank p3, lab_nl p3⟩, by rw [lenL]; exact hl.2, by rw [lenL]; exact hl.1⟩
  refine ⟨⟨(hf x hx).1, ?_⟩, (hf x hx).2⟩
  rw [hw] at hx
  rcases List.mem_cons.1 hx with e | hx
  · rw [e]; exact lab_nl (chk_in h0).1
  rcases List.mem_cons.1 hx with e | hx
  · rw [e]
    have hk13 := inR_iff.1 (chk_in h0).2.1
    exact (by decide : ∀ k, k < 4 → ∀ x, kwL[k]? = some x → (10 : UInt8) ∉ x) kd (by omega) kw hkw
  · obtain ⟨n, hn, rfl⟩ := List.mem_map.1 hx
    exact itoa_nl (chk_nums h0 n hn).1
theorem join_mem {ws : List (List UInt8)} {b : UInt8} (h : b ∈ Lib.join ws [32]) : b = 32 ∨ ∃ x ∈ ws, b ∈ x := by
  cases ws with
  | nil => simp [Lib.join_nil] at h
  | cons x r =>
    rw [Lib.join_cons, List.mem_append] at h
    rcases h with h | h
    · exact .inr ⟨x, by simp, h⟩
    · unfold Lib.joinTail at h
      obtain ⟨y, hy, hb⟩ := List.mem_flatten.1 h
      obtain ⟨z, hz, rfl⟩ := List.mem_map.1 hy
      rcases List.mem_append.1 hb with hb | hb
      · exact .inl (by simpa using hb)
      · exact .inr ⟨z, by simp [hz], hb⟩
theorem line_nl {s : Sit} (hp : plc s = 0) (h0 : chk s.ware = 0) : (10 : UInt8) ∉ lineL s := by
  intro h
  rcases join_mem h with e | ⟨x, hx, hb⟩
  · revert e; decide
  · exact ((lwords_fine hp h0).2 x hx).1.2 hb
theorem line_size {s : Sit} (hp : plc s = 0) (h0 : chk s.ware = 0) : (lineL s).length ≤ 300 ∧ 14 ≤ (lineL s).length := by
  obtain ⟨hl, hf⟩ := lwords_fine hp h0
  unfold lineL
  unfold lwords at hl hf ⊢
  rw [Lib.join_cons, List.length_append]
  have h1 := hf _ (List.mem_cons_self ..)
  have h2 := joinTail_le (s.name.data.toList :: wordsL s.ware) 16 (fun x hx => (hf x (List.mem_cons_of_mem _ hx)).2.1)
  have h3 := joinTail_ge (s.name.data.toList :: wordsL s.ware)
  have h4 : (s.name.data.toList :: wordsL s.ware).length = 13 := by simpa using hl
  rw [h4] at h2 h3
  omega
theorem inj_data : ∀ (l m : List ByteArray), l.map (·.data.toList) = m.map (·.data.toList) → l = m := by
  intro l
  induction l with
  | nil => intro m h; cases m with
    | nil => rfl
    | cons _ _ => simp at h
  | cons x l ih =>
    intro m h
    cases m with
    | nil => simp at h
    | cons y m =>
      simp only [List.map_cons, List.cons.injEq] at h
      rw [ih m h.2, show x = y from ByteArray.ext (Array.ext' h.1)]
def lwordsB (s : Sit) : List ByteArray := (lwords s).map fun x => ⟨x.toArray⟩
theorem line_split {s : Sit} (hp : plc s = 0) (h0 : chk s.ware = 0) : Lib.splitB ⟨#[32]⟩ 0 (min 15 ((⟨(lineL s).toArray⟩ : ByteArray).size + 1) - 1) ⟨(lineL s).toArray⟩ = lwordsB s := by
  have hsz : (⟨(lineL s).toArray⟩ : ByteArray).size = (lineL s).length := by simp [ByteArray.size]
  have hs := line_size hp h0
  obtain ⟨hl, hf⟩ := lwords_fine hp h0
  apply inj_data
  rw [Lib.splitB_data, hsz, show min 15 ((lineL s).length + 1) - 1 = 14 by omega]
  have e : (lwordsB s).map (·.data.toList) = lwords s := by simp [lwordsB, Function.comp_def]
  rw [e]
  show Lib.splitK [32] 0 14 (lineL s) = _
  unfold lineL
  unfold lwords at hl hf ⊢
  exact splitK_join _ _ 14 (fun x hx => (hf x hx).1.1) (by simp at hl ⊢; omega)
theorem atoi_small : ∀ i : Nat, i < 13 → Lib.atoi (Lib.decDigits i) = some (i : Int) := by
  intro i hi
  rcases (show i = 0 ∨ i = 1 ∨ i = 2 ∨ i = 3 ∨ i = 4 ∨ i = 5 ∨ i = 6 ∨ i = 7 ∨ i = 8 ∨ i = 9 ∨ i = 10 ∨ i = 11 ∨ i = 12 by omega) with e | e | e | e | e | e | e | e | e | e | e | e | e
  all_goals
    subst e
    first
    | (rw [Lib.decDigits, dif_pos (by decide)]; decide)
    | (rw [Lib.decDigits, dif_neg (by decide), Lib.decDigits, dif_pos (by decide)]; decide)
theorem dec_small {i : Nat} (hi : i < 13) : (Lib.decDigits i).length ≤ 2 ∧ 1 ≤ (Lib.decDigits i).length := by
  have h1 := dec_short 1 i (by omega)
  have h2 := (dec_facts i).2.2.1
  exact ⟨by omega, by cases h : Lib.decDigits i <;> simp_all⟩
set_option maxHeartbeats 1600000 in
theorem readNumber_any (i : Nat) (hi : i < 13) (w : World) :
    Calls Tryz.prog 82 #[.string ⟨(Lib.decDigits i).toArray⟩] w fun e w' => e = .returned (.tuple #[.int .i64 i, .bool true]) ∧ Below w.heap.size w w' := by
  have hl := dec_small hi
  have h1 : Hid (Calls Tryz.prog 98 #[.string ⟨(Lib.decDigits i).toArray⟩] w fun e w' => e = .returned (.tuple #[.int .i64 i, .nilIface]) ∧ ∃ t, w' = Lib.bytesWorld w 5 t) :=
    Tryz.strconv_Atoi ⟨(Lib.decDigits i).toArray⟩ i (by simp [ByteArray.size]; omega) (by simpa using atoi_small i hi) w
  have h2 : Hid (∀ W : World, Calls Tryz.prog 25 #[.int .i64 i] W fun e w' => e = .returned (.string ⟨(Lib.decDigits i).toArray⟩) ∧ w' = W) := fun W => Tryz.strconv_Itoa_small i (by omega) W
  have hll := hl.1
  clear hl
  generalize Lib.decDigits i = l at *
  go_enter Tryz.func82, Tryz.ntmps82
  go_wp2_with fail
  refine Calls.mono h1.out ?_
  rintro e w1 ⟨rfl, t, hw⟩
  have hb : Below w.heap.size w w1 := by rw [hw]; exact Lib.bytesWorld_below w 5 t
  clear hw
  go_wp2_with fail
  refine Calls.mono (h2.out w1) ?_
  rintro e w2 ⟨rfl, rfl⟩
  go_wp2
  refine bodyPost_ret (v := .tuple #[.int .i64 i, .bool true]) (by simp [results, Tryz.results82, go_sem]) rfl ⟨rfl, hb⟩

end Go.Proofs.YtmmpaaaifdikdaaGreatDoor
