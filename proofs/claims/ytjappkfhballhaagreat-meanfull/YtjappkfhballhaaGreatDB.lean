/- placing, fitting walked. -/
import Derived.Test.YtjappkfhballhaaGreatDA
import Derived.Test.YtjappkfhballhaaGreatFB
import Derived.Test.YtjappkfhballhaaGreatChk
namespace Go.Proofs.YtjappkfhballhaaGreat
open Go.RowKit


/-- What is wrong with a seat's slot, then with its name. -/
def plc (s : Sit) : Int := if inR 1 12 s.slot = true then (if lab s.name = true then 0 else 3) else 2
theorem frefs_lab (n : ByteArray) : F.frefs [[(n, 0)]] = if lab n = true then 0 else 3 := by
  rw [F.frefs_one]
  cases h : lab n with
  | true => rw [F.fref_ok (by simp) (by simp [F.badL, F.bad1, h]) (by simp [F.tot])]; rfl
  | false => rw [F.fref_bad (by simp) (by simp [F.badL, F.bad1, h])]; simp [F.badL, F.bad1, h]
set_option maxHeartbeats 800000 in
theorem fluidCheck_any (n : ByteArray) (w : World) (hn : n.size ≤ maxLen) (m : Nat) (hm : m = w.heap.size) :
    Calls Tryz.prog 82 #[.slice (some ⟨m, 0, none⟩) 1 1] (w.alloc (.cells #[.string n, .int .i64 0] 65)) fun e w' => e = .returned (.int .i64 (if lab n = true then 0 else 3)) ∧ Below (w.alloc (.cells #[.string n, .int .i64 0] 65)).heap.size (w.alloc (.cells #[.string n, .int .i64 0] 65)) w' := by
  subst hm
  have hF : F.Fl (w.alloc (.cells #[.string n, .int .i64 0] 65)) (some ⟨w.heap.size, 0, none⟩) [(n, 0)] := by
    refine ⟨fun p hp => by simp at hp; subst hp; exact hn, .inr ⟨w.heap.size, 0, rfl, by simp, fun k hk => ?_⟩⟩
    match k, hk with
    | 0, _ => exact ⟨by go_simp, by go_simp⟩
  obtain ⟨w0, hw0⟩ : ∃ w0, w0 = w.alloc (.cells #[.string n, .int .i64 0] 65) := ⟨_, rfl⟩
  have hsz : w.heap.size < w0.heap.size := by rw [hw0]; simp
  rw [← hw0] at hF ⊢
  clear hw0
  have hcall := F.refusal_any w0.heap.size 1 [(some ⟨w.heap.size, 0, none⟩, 1, [(n, 0)])] _ (F.FlS.one hF) (by simp)
  have HL := frefs_lab n
  simp only [List.map_cons, List.map_nil, List.length_cons, List.length_nil, Nat.zero_add, HL] at hcall
  generalize (if lab n = true then (0 : Int) else 3) = r at *
  clear HL hF
  go_enter Tryz.func82, Tryz.ntmps82
  go_wp2_with (go_at_call 56; refine hcall.mono ?_; rintro e w' ⟨rfl, hb'⟩)
  go_ret
  exact ⟨rfl, ((Below.refl _ _).alloc (Nat.le_refl _) _).trans (hb'.mono (by simp))⟩

set_option maxHeartbeats 1600000 in
theorem placing_any (s : Sit) (w : World) (hs : SOk s) :
    Calls Tryz.prog 59 #[sv s] w fun e w' => e = .returned (.int .i64 (plc s)) ∧ Below w.heap.size w w' := by
  by_cases h1 : s.slot < 1
  · have HP : Hid (plc s = 2) := by show plc s = 2; unfold plc; rw [inR_no (.inl h1)]; rfl
    go_enter Tryz.func59, Tryz.ntmps59
    go_wp2
    go_ret
    exact ⟨ret_int HP.out.symm, (Below.refl _ _).alloc (Nat.le_refl _) _⟩
  by_cases h2 : 12 < s.slot
  · have HP : Hid (plc s = 2) := by show plc s = 2; unfold plc; rw [inR_no (.inr h2)]; rfl
    go_enter Tryz.func59, Tryz.ntmps59
    go_wp2
    go_ret
    exact ⟨ret_int HP.out.symm, (Below.refl _ _).alloc (Nat.le_refl _) _⟩
  have HP : Hid (plc s = if lab s.name = true then 0 else 3) := by show plc s = _; unfold plc; rw [inR_yes (by omega) (by omega)]; rfl
  have hcall := fluidCheck_any s.name (w.alloc (sobj s)) hs.2 (w.heap.size + 1) (by simp)
  rw [← HP.out] at hcall
  generalize plc s = r at *
  clear HP
  go_enter Tryz.func59, Tryz.ntmps59
  go_wp2_with (go_at_call 82; refine hcall.mono ?_; rintro e w' ⟨rfl, hb'⟩)
  go_ret
  exact ⟨rfl, (((Below.refl _ _).alloc (Nat.le_refl _) _).alloc (by simp) _).trans (hb'.mono (by simp; omega))⟩

/-- The first number that is not 0. -/
def orL : List Int → Int
  | [] => 0
  | n :: l => if n = 0 then orL l else n
theorem orL_skip : ∀ {a l : List Int}, (∀ n ∈ a, n = 0) → orL (a ++ l) = orL l
  | [], _, _ => rfl
  | n :: a, l, h => by
    simp only [List.cons_append, orL]
    rw [if_pos (h n (by simp)), orL_skip fun c hc => h c (by simp [hc])]
theorem orL_at {l : List Int} {k : Nat} (h : k < l.length) (ha : ∀ n ∈ l.take k, n = 0) (hb : l[k]'h ≠ 0) : orL l = l[k]'h := by
  have e : l = l.take k ++ l[k]'h :: l.drop (k + 1) := by rw [← List.drop_eq_getElem_cons h, List.take_append_drop]
  conv => lhs; rw [e]
  rw [orL_skip ha]
  simp only [orL]; rw [if_neg hb]
theorem orL_zero {l : List Int} (ha : ∀ n ∈ l, n = 0) : orL l = 0 := by
  have := orL_skip (l := []) ha
  simpa [orL] using this
set_option maxHeartbeats 1600000 in
theorem cmpOr_any (b cap : Nat) (xs : List Int) (w : World) (hl : xs.length ≤ 100) (hc : ∀ k (h : k < xs.length), w.cell? ⟨b, k, none⟩ = some (.int .i64 (xs[k]'h))) :
    Calls Tryz.prog 58 #[.slice (some ⟨b, 0, none⟩) xs.length cap] w fun e w' => e = .returned (.int .i64 (orL xs)) ∧ w' = w := by
  have HC : Hid (∀ k (h : k < xs.length), w.cell? ⟨b, k, none⟩ = some (.int .i64 (xs[k]'h))) := hc
  clear hc
  go_enter Tryz.func58, Tryz.ntmps58
  go_wp2
  go_loopw [5, 8] (fun _ i wr => ∃ k : Nat, k ≤ xs.length ∧ i = .int .i64 k ∧ (∀ n ∈ xs.take k, n = 0) ∧ wr = w) (fun _ i _ => xs.length - (intOf i).toNat)
  case atStart => exact ⟨0, Nat.zero_le _, rfl, (fun f hf => by simp at hf), rfl⟩
  case round =>
    obtain ⟨k, hk, rfl, hok, rfl⟩ := hrel
    have HO : Hid (∀ n ∈ xs.take k, n = 0) := hok
    clear hok
    by_cases hlt : k < xs.length
    · have c0 := HC.out k hlt
      have HHit : Hid (xs[k]'hlt ≠ 0 → orL xs = xs[k]'hlt) := orL_at hlt HO.out
      have HMiss : Hid (xs[k]'hlt = 0 → ∀ n ∈ xs.take (k + 1), n = 0) := fun h n hn => by
        rw [List.take_succ_eq_append_getElem hlt] at hn
        rcases List.mem_append.1 hn with hn | hn
        · exact HO.out n hn
        · simp at hn; rw [hn]; exact h
      generalize xs[k]'hlt = a at *
      by_cases ha : a = 0
      · have hne : (a != 0) = false := by simp [ha]
        have HM := (show Hid _ from HMiss.out ha)
        clear ha
        go_wp2
        go_roundw
        case rel => exact ⟨k + 1, by omega, by go_num, HM.out, by trivial⟩
        case measure => simp [intOf]; omega
      · have hne : (a != 0) = true := by simp [ha]
        have HM := (show Hid _ from HHit.out ha)
        clear ha
        go_wp2
        go_ret
        exact ⟨ret_int HM.out.symm, rfl⟩
    · go_wp2
      go_ret
      exact ⟨ret_int (orL_zero fun n hn => HO.out n (by rw [List.take_of_length_le (by omega)]; exact hn)).symm, rfl⟩

/-- What is wrong with a seat whose ware may be, for its slot, and beside those ahead of it. -/
def fit (ahead : List Sit) (s : Sit) : Int :=
  if 132500 < s.ware.wid ∨ 90500 < s.ware.len then 8 else if (ahead.any fun a => a.slot == s.slot) = true ∨ (ahead.any fun a => a.name == s.name) = true then 4 else 0
set_option maxHeartbeats 3200000 in
theorem fitting_any (ao : Option Addr) (cap : Nat) (l : List Sit) (s : Sit) (w : World) (hL : Sts w ao l) (hl : l.length ≤ 9223372036854775807) :
    Calls Tryz.prog 61 #[.slice ao l.length cap, sv s] w fun e w' => e = .returned (.int .i64 (fit l s)) ∧ Below w.heap.size w w' := by
  have HL : Hid (Sts w ao l) := hL
  clear hL
  by_cases h1 : 132500 < s.ware.wid
  · have HP : Hid (fit l s = 8) := if_pos (.inl h1)
    go_enter Tryz.func61, Tryz.ntmps61
    go_wp2
    go_ret
    exact ⟨ret_int HP.out.symm, (Below.refl _ _).alloc (Nat.le_refl _) _⟩
  by_cases h2 : 90500 < s.ware.len
  · have HP : Hid (fit l s = 8) := if_pos (.inr h2)
    go_enter Tryz.func61, Tryz.ntmps61
    go_wp2
    go_ret
    exact ⟨ret_int HP.out.symm, (Below.refl _ _).alloc (Nat.le_refl _) _⟩
  have HP : Hid (fit l s = if (l.any fun a => a.slot == s.slot) = true ∨ (l.any fun a => a.name == s.name) = true then 4 else 0) := if_neg (by omega)
  have H1 : Hid (Calls Tryz.prog 88 #[.slice ao l.length cap, .func (.func 91) #[] #[ptr (w.heap.size + 1)]] ((w.alloc (sobj s)).alloc (.cells #[.int .i64 s.slot] 3)) fun e w' => e = .returned (.bool (l.any fun a => a.slot == s.slot)) ∧ Below ((w.alloc (sobj s)).alloc (.cells #[.int .i64 s.slot] 3)).heap.size ((w.alloc (sobj s)).alloc (.cells #[.int .i64 s.slot] 3)) w') :=
    containsFuncS_any 91 #[ptr (w.heap.size + 1)] (fun a => a.slot == s.slot) ao cap l _ en91 (fun a W hW => standing_test a s.slot (w.heap.size + 1) W (by have := hW.size; simp at this; omega) (cell_later hW (by go_simp))) (HL.out.next (((Below.refl _ _).alloc (Nat.le_refl _) _).alloc (by simp) _)) hl
  have H2 : Hid (∀ W : World, Below w.heap.size w W → Calls Tryz.prog 88 #[.slice ao l.length cap, .func (.func 112) #[] #[ptr W.heap.size]] (W.alloc (.cells #[.string s.name] 9)) fun e w' => e = .returned (.bool (l.any fun a => a.name == s.name)) ∧ Below (W.alloc (.cells #[.string s.name] 9)).heap.size (W.alloc (.cells #[.string s.name] 9)) w') := fun W hW =>
    containsFuncS_any 112 #[ptr W.heap.size] (fun a => a.name == s.name) ao cap l _ en112 (fun a W' hW' => named_test a s.name W.heap.size W' (by have := hW'.size; simp at this; omega) (cell_later hW' (by go_simp))) (HL.out.next (hW.alloc hW.size _)) hl
  cases q1 : (l.any fun a => a.slot == s.slot) with
  | true =>
    rw [q1] at H1 HP
    simp only [true_or, if_true] at HP
    go_enter Tryz.func61, Tryz.ntmps61
    go_wp2_with fail
    refine (standingIn_any _ _).mono ?_
    rintro e w1 ⟨rfl, rfl⟩
    go_wp2_with fail
    refine H1.out.mono ?_
    rintro e w2 ⟨rfl, hb⟩
    go_wp2
    go_ret
    exact ⟨ret_int HP.out.symm, (((Below.refl _ _).alloc (Nat.le_refl _) _).alloc (by simp) _).trans (hb.mono (by simp; omega))⟩
  | false =>
    rw [q1] at H1 HP
    simp only [Bool.false_eq_true, false_or] at HP
    have HPq : Hid (∀ q : Bool, (l.any fun a => a.name == s.name) = q → fit l s = if q = true then 4 else 0) := fun q hq => by rw [HP.out, hq]
    clear HP
    cases q2 : (l.any fun a => a.name == s.name) with
    | _ =>
      rw [q2] at H2
      have HF := (show Hid _ from HPq.out _ q2)
      simp only [Bool.false_eq_true, if_true, if_false] at HF
      clear HPq q1 q2
      go_enter Tryz.func61, Tryz.ntmps61
      go_wp2_with fail
      refine (standingIn_any _ _).mono ?_
      rintro e w1 ⟨rfl, rfl⟩
      go_wp2_with fail
      refine H1.out.mono ?_
      rintro e w2 ⟨rfl, hb⟩
      have c13 : w2.cell? ⟨w.heap.size, 13, none⟩ = some (.string s.name) := cell_later hb (by go_simp)
      have HB : Hid (Below w.heap.size w w2) := (((Below.refl _ _).alloc (Nat.le_refl _) _).alloc (by simp) _).trans (hb.mono (by simp; omega))
      clear hb
      go_wp2_with fail
      refine (named_any _ _).mono ?_
      rintro e w3 ⟨rfl, rfl⟩
      go_wp2_with fail
      refine (H2.out w2 HB.out).mono ?_
      rintro e w4 ⟨rfl, hb4⟩
      go_wp2
      go_ret
      exact ⟨ret_int HF.out.symm, (HB.out.alloc HB.out.size _).trans (hb4.mono (by have := HB.out.size; simp; omega))⟩


end Go.Proofs.YtjappkfhballhaaGreat
