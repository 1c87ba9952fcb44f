/- Read of a command told twice. -/
import Derived.Test.YtiafppmpjmpdmaaDoorCM
import Derived.Test.YtiafppmpjmpdmaaDoorCT
import Derived.OwnWalk
namespace Go.Proofs.YtiafppmpjmpdmaaDoor
open Go.RowKit Go.Shelf

/-! ### how many lines -/
theorem count_two {a b : List UInt8} (ha : (10 : UInt8) ∉ a) (hb : (10 : UInt8) ∉ b) : Lib.countByte (a ++ 10 :: (b ++ [10])) 10 = 2 := by
  unfold Lib.countByte
  rw [List.count_append, List.count_cons_self, List.count_append, List.count_eq_zero.2 ha, List.count_eq_zero.2 hb]
  rfl
theorem suffix_feed (a : List UInt8) : Lib.hasSuffix (a ++ [10]) [10] = true := by
  unfold Lib.hasSuffix
  rw [List.isSuffixOf_iff_suffix]
  exact List.suffix_append _ _
theorem countB (l : List UInt8) (w : World) : Calls Tryd.prog 48 #[sA l, .string ⟨#[10]⟩] w fun e w' => e = .returned (.int .i64 (Lib.countByte l 10)) ∧ w' = w := Tryd.strings_Count_one ⟨l.toArray⟩ 10 w
theorem suffixB (l : List UInt8) (w : World) (h : l.length ≤ 9223372036854775807) : Calls Tryd.prog 49 #[sA l, .string ⟨#[10]⟩] w fun e w' => e = .returned (.bool (Lib.hasSuffix l [10])) ∧ w' = w := Tryd.strings_HasSuffix ⟨l.toArray⟩ ⟨#[10]⟩ w (by simpa [ByteArray.size] using h)
set_option maxHeartbeats 6400000 in
set_option maxRecDepth 100000 in
theorem countLines_two (a b : List UInt8) (w : World) (ha : (10 : UInt8) ∉ a) (hb : (10 : UInt8) ∉ b) (hla : a.length ≤ 1000) (hlb : b.length ≤ 1000) : Calls Tryd.prog 37 #[sA (a ++ 10 :: (b ++ [10]))] w fun e w' => e = .returned (.int .i64 2) ∧ w' = w := by
  have HC : Hid (∀ W, Calls Tryd.prog 48 #[sA (a ++ 10 :: (b ++ [10])), .string ⟨#[10]⟩] W fun e w' => e = .returned (.int .i64 2) ∧ w' = W) := fun W => by
    have h := countB (a ++ 10 :: (b ++ [10])) W
    rw [count_two ha hb] at h
    exact h
  have HS : Hid (∀ W, Calls Tryd.prog 49 #[sA (a ++ 10 :: (b ++ [10])), .string ⟨#[10]⟩] W fun e w' => e = .returned (.bool true) ∧ w' = W) := fun W => by
    have h := suffixB ((a ++ 10 :: b) ++ [10]) W (by simp; omega)
    rw [suffix_feed] at h
    rw [show a ++ 10 :: (b ++ [10]) = (a ++ 10 :: b) ++ [10] by simp]
    exact h
  have hne : a ++ 10 :: (b ++ [10]) ≠ [] := by simp
  generalize a ++ 10 :: (b ++ [10]) = T at *
  have p1 : (([] : List UInt8) == T) = false := by rw [beq_eq_false_iff_ne]; exact fun h => hne h.symm
  have p2 : (T == []) = false := by rw [beq_eq_false_iff_ne]; exact hne
  have p3 : T.isEmpty = false := by simpa using hne
  clear hne ha hb hla hlb
  go_enter Tryd.func37, Tryd.ntmps37
  go_wp2_with fail
  refine (HC.out _).mono ?_
  rintro e w1 ⟨rfl, hw⟩
  subst hw
  go_wp2_with fail
  refine (HS.out _).mono ?_
  rintro e w2 ⟨rfl, hw⟩
  subst hw
  go_wp2
  go_ret
  exact ⟨rfl, rfl⟩

/-! ### commands in a list -/
abbrev C5 := Int × Int × Int × Int × Int
def encC : Enc C5 := ⟨23, 5, fun p => c5 p.1 p.2.1 p.2.2.1 p.2.2.2.1 p.2.2.2.2⟩
theorem goodC : Good encC := ⟨fun _ => rfl, fun x u hu => by
  simp only [encC, List.mem_cons, List.mem_nil_iff, or_false] at hu
  rcases hu with rfl | rfl | rfl | rfl | rfl <;> rfl⟩
theorem infoC : (Tryd.prog.info? 23).map (fun i => (i.zero, i.size, i.bytes)) = some (some (.agg #[.int .i64 0, .int .i64 0, .int .i64 0, .int .i64 0, .int .i64 0]), 5, 40) := by kernel_rfl
theorem parse_line {n : Int} {k : Nat} {x y z u : Int} (h : refuC n k x y z u = 0) (W : World) (hW : Tall W) : Calls Tryd.prog 9 #[sA (lineL n k x y z u)] W fun e w' => e = .returned (pv n k x y z u 0) ∧ Below W.heap.size W w' := by
  obtain ⟨a, b, c, d, e, f, g, hE⟩ := parse_back h
  have hl := line_len (k := k) (refu_fit h).1
  have := parse_any (lineL n k x y z u) W (by omega) hW
  rw [hE, a, b, c, d, e, f, g] at this
  exact this
set_option maxHeartbeats 6400000 in
set_option maxRecDepth 100000 in
theorem read_two (k : Nat) (x y z u : Int) (w : World) (h1 : refuC 1 k x y z u = 0) (h2 : refuC 2 k x y z u = 0) (hT : Tall w) : Calls Tryd.prog 14 #[sA (twoL k x y z u)] w fun e w' => ∃ v, e = .returned (.tuple #[v, .int .i64 0, .int .i64 0]) ∧ OwnR encC w' w.heap.size v [((k : Int), x, y, z, u), ((k : Int), x, y, z, u)] ∧ Below w.heap.size w w' := by
  have HP1 : Hid (∀ W, Tall W → Calls Tryd.prog 9 #[sA (lineL 1 k x y z u)] W fun e w' => e = .returned (pv 1 k x y z u 0) ∧ Below W.heap.size W w') := parse_line h1
  have HP2 : Hid (∀ W, Tall W → Calls Tryd.prog 9 #[sA (lineL 2 k x y z u)] W fun e w' => e = .returned (pv 2 k x y z u 0) ∧ Below W.heap.size W w') := parse_line h2
  have HL1 := line_len (k := k) (refu_fit h1).1
  have HL2 := line_len (k := k) (refu_fit h2).1
  have HF1 := feed_line 1 k x y z u
  have HF2 := feed_line 2 k x y z u
  have HCn : Hid (∀ W, Calls Tryd.prog 37 #[sA (twoL k x y z u)] W fun e w' => e = .returned (.int .i64 2) ∧ w' = W) := fun W => countLines_two _ _ W HF1 HF2 (by omega) (by omega)
  have HC1 : Hid (∀ W, Tall W → Calls Tryd.prog 21 #[sA (twoL k x y z u), .string ⟨#[10]⟩] W fun e w' => e = .returned (.tuple #[sA (lineL 1 k x y z u), sA (lineL 2 k x y z u ++ [10]), .bool true]) ∧ Below W.heap.size W w') := fun W h => by
    have := cutB (twoL k x y z u) [10] W (by unfold twoL; simp; omega) h
    rw [show Lib.cut (twoL k x y z u) [10] = _ from cut_some (r := lineL 2 k x y z u ++ [10]) HF1] at this
    exact this
  have HC2 : Hid (∀ W, Tall W → Calls Tryd.prog 21 #[sA (lineL 2 k x y z u ++ [10]), .string ⟨#[10]⟩] W fun e w' => e = .returned (.tuple #[sA (lineL 2 k x y z u), sA [], .bool true]) ∧ Below W.heap.size W w') := fun W h => by
    have := cutB (lineL 2 k x y z u ++ [10]) [10] W (by simp; omega) h
    rw [show Lib.cut (lineL 2 k x y z u ++ [10]) [10] = _ from cut_some (r := []) HF2] at this
    exact this
  have HT : Hid (Tall w) := hT
  generalize twoL k x y z u = T at *
  generalize lineL 1 k x y z u = L1 at *
  generalize lineL 2 k x y z u = L2 at *
  generalize L2 ++ [10] = R2 at *
  clear h1 h2 hT HL1 HL2 HF1 HF2
  go_enter Tryd.func14, Tryd.ntmps14
  go_wp2_with fail
  refine (HCn.out _).mono ?_
  rintro e w0 ⟨rfl, hw⟩
  subst hw
  go_wp2_with fail
  refine wp_loop_rounds 3 ?_
  rw [rounds_succ]
  go_wp2_with fail
  refine (HC1.out _ HT.out).mono ?_
  rintro e w11 ⟨rfl, hb⟩
  have HB11 : Hid (Below w0.heap.size w0 w11) := hb
  have HT11 : Hid (Tall w11) := HT.out.later HB11.out
  have HO11 : Hid (OwnR encC w11 w0.heap.size (.slice none 0 0) []) := OwnR.nil _ _ _
  clear hb
  go_wp2_with fail
  refine (HP1.out _ HT11.out).mono ?_
  rintro e w12 ⟨rfl, hb⟩
  have HB12 : Hid (Below w0.heap.size w0 w12) := HB11.out.trans (hb.mono HB11.out.size)
  have HO12 : Hid (OwnR encC w12 w0.heap.size (.slice none 0 0) []) := HO11.out.later hb
  have hz12 : w0.heap.size ≤ w12.heap.size := HB12.out.size
  have HBB : Hid (Below w0.heap.size w0 ((w12.alloc (o5 k x y z u)).alloc (o5 k x y z u))) := (HB12.out.alloc hz12 _).alloc (by simp; omega) _
  have HZB : Hid (w0.heap.size ≤ ((w12.alloc (o5 k x y z u)).alloc (o5 k x y z u)).heap.size) := HBB.out.size
  clear hb HB11 HO11 HT11
  go_wp2_with (at_builtin; refine wpList_append_row goodC Tryd.underlying33 infoC rfl (by decide) (by decide) _ rfl (.tmp 47) (.tmp 49) rfl w0.heap.size (.slice none 0 0) [] rfl ((HO12.out.alloc _).alloc _) (w12.heap.size + 1) ((k : Int), x, y, z, u) rfl (fun j q hq => (Bk.new (w12.alloc (o5 k x y z u)) (c5 k x y z u) 23 (w12.heap.size + 1) (by simp)).c j hq) (by simp) HZB.out ?_; intro v14 w14 ho hg hloc; have HO14 : Hid (OwnR encC w14 w0.heap.size v14 ([] ++ [((k : Int), x, y, z, u)])) := ho; have HB14 : Hid (Below w0.heap.size w0 w14) := below_row HBB.out ((HO12.out.alloc (o5 k x y z u)).alloc (o5 k x y z u)) hg HZB.out; clear ho hg hloc)
  obtain ⟨ao1, cap1, hv1⟩ := HO14.out.shape
  have hv2 : v14 = .slice ao1 1 cap1 := hv1
  subst hv2
  have HO1 : Hid (OwnR encC w14 w0.heap.size (.slice ao1 1 cap1) [((k : Int), x, y, z, u)]) := HO14.out
  clear hv1 HO14 HBB HZB HB12 HO12 hz12
  rw [rounds_succ]
  go_wp2_with fail
  refine (HC2.out _ (HT.out.later HB14.out)).mono ?_
  rintro e w21 ⟨rfl, hb⟩
  have HB21 : Hid (Below w0.heap.size w0 w21) := HB14.out.trans (hb.mono HB14.out.size)
  have HT21 : Hid (Tall w21) := HT.out.later HB21.out
  have HO21 : Hid (OwnR encC w21 w0.heap.size (.slice ao1 1 cap1) [((k : Int), x, y, z, u)]) := HO1.out.later hb
  clear hb
  go_wp2_with fail
  refine (HP2.out _ HT21.out).mono ?_
  rintro e w22 ⟨rfl, hb⟩
  have HB22 : Hid (Below w0.heap.size w0 w22) := HB21.out.trans (hb.mono HB21.out.size)
  have HO22 : Hid (OwnR encC w22 w0.heap.size (.slice ao1 1 cap1) [((k : Int), x, y, z, u)]) := HO21.out.later hb
  have hz22 : w0.heap.size ≤ w22.heap.size := HB22.out.size
  have HBB : Hid (Below w0.heap.size w0 ((w22.alloc (o5 k x y z u)).alloc (o5 k x y z u))) := (HB22.out.alloc hz22 _).alloc (by simp; omega) _
  have HZB : Hid (w0.heap.size ≤ ((w22.alloc (o5 k x y z u)).alloc (o5 k x y z u)).heap.size) := HBB.out.size
  clear hb HB21 HO21 HT21
  go_wp2_with (at_builtin; refine wpList_append_row goodC Tryd.underlying33 infoC rfl (by decide) (by decide) _ rfl (.tmp 47) (.tmp 49) rfl w0.heap.size (.slice ao1 1 cap1) [((k : Int), x, y, z, u)] rfl ((HO22.out.alloc _).alloc _) (w22.heap.size + 1) ((k : Int), x, y, z, u) rfl (fun j q hq => (Bk.new (w22.alloc (o5 k x y z u)) (c5 k x y z u) 23 (w22.heap.size + 1) (by simp)).c j hq) (by simp) HZB.out ?_; intro v24 w24 ho hg hloc; have HO24 : Hid (OwnR encC w24 w0.heap.size v24 ([((k : Int), x, y, z, u)] ++ [((k : Int), x, y, z, u)])) := ho; have HB24 : Hid (Below w0.heap.size w0 w24) := below_row HBB.out ((HO22.out.alloc (o5 k x y z u)).alloc (o5 k x y z u)) hg HZB.out; clear ho hg hloc)
  have HO2 : Hid (OwnR encC w24 w0.heap.size v24 [((k : Int), x, y, z, u), ((k : Int), x, y, z, u)]) := HO24.out
  rw [rounds_succ]
  go_wp2
  exact bodyPost_ret (v := .tuple #[v24, .int .i64 0, .int .i64 0]) (by simp [results, Tryd.results14, go_sem]) rfl ⟨v24, rfl, HO2.out, HB24.out⟩
end Go.Proofs.YtiafppmpjmpdmaaDoor
