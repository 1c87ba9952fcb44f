/- ware.Show walked. -/
import Derived.Test.YtmmpaaaifdikdaaGreatDoorKind
import Derived.Test.YtmmpaaaifdikdaaGreatDoorMay
import Derived.Test.YtmmpaaaifdikdaaGreatDoorRsp
import Derived.Test.YtmmpaaaifdikdaaGreatDoorShelf
import Derived.Maps.AppendAt
import Derived.Lib.AppendIntMem
import Derived.WalkSmall
namespace Go.Proofs.YtmmpaaaifdikdaaGreatDoor
open Go.RowKit Go.Shelf

/-- The package-level variables that are read, as they are laid. -/
structure Tabs (w : World) : Prop where
  pow : Lib.TabIs Tryz.prog w "internal/strconv.uint64pow10" .u64 Lib.pow10Tab
  kw : KW w
  most : ∃ m : Int, w.cell? ⟨2, 0, none⟩ = some (.int .i64 m)
  size : 2 < w.heap.size
theorem Tabs.next {w w1 : World} (h : Tabs w) (hb : Below w.heap.size w w1) : Tabs w1 :=
  ⟨var?_below hb (g := 1) (by kernel_rfl) (by have := h.size; omega) h.pow, h.kw.later hb, h.most.imp fun _ hm => cell_later hb hm, Nat.lt_of_lt_of_le h.size hb.size⟩
theorem itoaB (n : Int) (h0 : -9223372036854775808 ≤ n) (h1 : n ≤ 9223372036854775807) (w : World) (htab : Lib.TabIs Tryz.prog w "internal/strconv.uint64pow10" .u64 Lib.pow10Tab) :
    Calls Tryz.prog 25 #[.int .i64 n] w fun e w' => e = .returned (.string ⟨(Lib.itoa n).toArray⟩) ∧ Below w.heap.size w w' :=
  (Any.strconv_Itoa Tryz.laysM171 n h0 h1 w htab).mono fun _ _ ⟨he, k, os, hw⟩ => ⟨he, by rw [hw]; exact Lib.below_grow _ _ (Nat.le_refl _) _ _⟩

theorem Tryz.info9 : (Tryz.prog.info? 9).map (fun i => (i.zero, i.size, i.bytes)) = some (some (.string ⟨#[]⟩), 1, 16) := by kernel_rfl
/-- The call's own texts. -/
def OwnS (w : World) (base : Nat) (v : Value) (xs : List ByteArray) : Prop := w.ownsRow base 9 1 v xs.length (xs.map Value.string)
theorem OwnS.later {w w' : World} {base : Nat} {v : Value} {xs : List ByteArray} (h : OwnS w base v xs) (hb : Below w.heap.size w w') : OwnS w' base v xs := by
  refine ⟨h.1, h.2.elim .inl fun ⟨g, cap, cur, h1, h2, h3, h4⟩ => .inr ⟨g, cap, cur, h1, h2, ?_, h4⟩⟩
  rw [hb.block g (Array.getElem?_eq_some_iff.1 h3).1]; exact h3
theorem new_two (x y : ByteArray) (w : World) (base : Nat) (t : Nat) (hb : base ≤ w.heap.size) (ht : t = 9 := by rfl) : OwnS (w.alloc (.cells #[.string x, .string y] t)) base (.slice (some ⟨w.heap.size, 0, none⟩) 2 2) [x, y] := by
  subst ht
  exact ⟨rfl, .inr ⟨w.heap.size, 2, #[.string x, .string y], rfl, hb, by show (w.heap.push _)[w.heap.size]? = _; simp, Nat.le_refl 2, by show 2 ≤ maxLen; unfold maxLen; omega, rfl, rfl⟩⟩
theorem OwnS.shape {w : World} {base : Nat} {v : Value} {xs : List ByteArray} (h : OwnS w base v xs) : ∃ ao cap, v = .slice ao xs.length cap := by
  rcases h.2 with ⟨h1, h2⟩ | ⟨g, cap, cur, h1, _⟩
  · exact ⟨none, 0, by rw [h1, h2]⟩
  · exact ⟨_, _, h1⟩
theorem OwnS.read {w : World} {base : Nat} {v : Value} {xs : List ByteArray} (h : OwnS w base v xs) (hne : xs ≠ []) : ∃ g cap, v = .slice (some ⟨g, 0, none⟩) xs.length cap ∧ g < w.heap.size ∧ xs.length ≤ cap ∧
    ∀ (j : Nat) x, xs[j]? = some x → w.cell? ⟨g, 0 + j, none⟩ = some (.string x) := by
  rcases h.2 with ⟨h1, h2⟩ | ⟨g, cap', cur, h1, h2, h3, h4, h5⟩
  · exact absurd (List.eq_nil_of_length_eq_zero h2) hne
  · subst h1
    refine ⟨g, cap', rfl, (Array.getElem?_eq_some_iff.1 h3).1, h4, fun j x hj => ?_⟩
    have hl := (List.getElem?_eq_some_iff.1 hj).1
    have e1 := World.ownsRow.cellAt h j (by omega)
    rw [Nat.zero_add]
    rw [e1, List.getElem?_map, hj]; rfl
/-- One text appended to the call's own. -/
theorem wpList_append_str (w : World) {ops : Array Oper} {rest : List Oper} {o : Oper} {a : Act} {Q : Exit → Act → World → Prop} (hgd : o.guard = none) (s x : Operand)
    (ho : o.op = .call { callee := .builtin .append, args := #[s, x], argTypes := #[80, 80] }) (base : Nat) (v : Value) (xs : List ByteArray) (hs : a.eval s = v) (hown : OwnS w base v xs)
    (b : Nat) (y : ByteArray) (hx : a.eval x = .slice (some ⟨b, 0, none⟩) 1 1) (h0 : w.cell? ⟨b, 0, none⟩ = some (.string y)) (hlen : xs.length ≤ 2000000) (hbase : base ≤ w.heap.size)
    (h : ∀ v' w', OwnS w' base v' (xs ++ [y]) → w.grownBy w' v.ownBlock → (v'.ownBlock = v.ownBlock ∨ v'.ownBlock = some w.heap.size) → wpList Tryz.prog ops Q rest (a.put o.dst v') w') :
    wpList Tryz.prog ops Q (o :: rest) a w := by
  obtain ⟨i0, hi, hz0, hz1, hz2⟩ := info_parts Tryz.info9
  refine wpList_append_own_at w hgd s x 80 ho base 9 i0 (.string ⟨#[]⟩) 1 16 Tryz.underlying80 hi hz0 hz1 hz2 rfl (by decide) v xs.length (xs.map Value.string) hs hown ⟨b, 0, none⟩ 1 1 [.string y] hx rfl ?_ ?_ ?_ ?_ hbase ?_
  · intro j u hj
    match j, hj with
    | 0, hj => simp at hj; subst hj; simpa [Addr.add] using h0
  · intro u hu
    simp at hu
    subst hu; rfl
  · unfold maxLen; omega
  · omega
  · intro v' w' h1 h2 _ h4
    refine h v' w' ?_ h2 h4
    unfold OwnS
    rw [List.map_append, List.length_append]
    exact h1

/-- The ten numbers of a ware, in the order in which they are told. -/
def numsL (a : Wr) : List Int := [a.rows, a.cols, a.x, a.y, a.pitch, a.wid, a.len, a.hei, a.deep, a.cap]
/-- The words of a ware. -/
def wordsL (a : Wr) : List (List UInt8) := a.name.data.toList :: kwL.getD a.kind.toNat [] :: (numsL a).map Lib.itoa
def itoaA (n : Int) : ByteArray := ⟨(Lib.itoa n).toArray⟩
def showL (a : Wr) : List UInt8 := Lib.join (wordsL a) [32]

def show4V (a : Wr) (K : Nat) (kw : List UInt8) (B base : Nat) (d : Nat) (v : Value) (w : World) : Prop :=
  match d with
  | 13 => v = .pointer (some ⟨B, 0, none⟩)
  | 14 => v = .string a.name
  | 15 => v = .pointer (some ⟨B, 1, none⟩)
  | 16 => v = .int .i64 (K : Int)
  | 17 => v = .pointer (some ⟨0, K, none⟩)
  | 18 => v = .string ⟨kw.toArray⟩
  | 19 => OwnS w base v [a.name, ⟨kw.toArray⟩]
  | 5 => OwnS w base v [a.name, ⟨kw.toArray⟩]
  | _ => True
theorem show4V_mono (a : Wr) (K : Nat) (kw : List UInt8) (B base : Nat) (d : Nat) (v : Value) (w w' : World) (h : show4V a K kw B base d v w) (hb : Below w.heap.size w w') : show4V a K kw B base d v w' := by
  unfold show4V at h ⊢
  split <;> simp only [] at h <;> first | exact h | exact h.later hb

set_option maxHeartbeats 1600000 in
theorem show_err (a : Wr) (w : World) (hs : a.name.size ≤ maxLen) (hn : chk a ≠ 0) :
    Calls Tryz.prog 23 #[wv a] w fun e w' => e = .returned (.tuple #[.string ⟨#[]⟩, .int .i64 (chk a)]) ∧ Below w.heap.size w w' := by
  have hne : (chk a != 0) = true := by simp [hn]
  go_enter Tryz.func23, Tryz.ntmps23
  go_wp2_with fail
  refine (check_any a _ hs).mono ?_
  rintro e w1 ⟨rfl, hb⟩
  go_wp2
  refine bodyPost_ret (v := .tuple #[.string ⟨#[]⟩, .int .i64 (chk a)]) (by simp [results, Tryz.results23, go_sem]) rfl ⟨rfl, ((Below.refl _ _).alloc (Nat.le_refl _) _).trans (hb.mono (by simp))⟩

theorem chk_nums {a : Wr} (h : chk a = 0) : ∀ n ∈ numsL a, 0 ≤ n ∧ n ≤ 1000000000 := by
  have hin := chk_inR h
  have h2 := (chk_in h).2.2.2.2.1
  have hcap := (range_iff hin.r1 hin.c1).1 h2
  obtain ⟨r1, r2, c1, c2, x0, x1, y0, y1, p0, p1, w0, w1, l0, l1, h0, h1, d0, d1⟩ := hin
  have hc : 0 ≤ a.cap ∧ a.cap ≤ 1000000000 := by
    have h3 := hcap.2.2
    by_cases hk : a.kind = 3
    · have := h3.1 hk; omega
    · have := h3.2 hk; omega
  intro n hn
  simp only [numsL, List.mem_cons, List.not_mem_nil, or_false] at hn
  rcases hn with e | e | e | e | e | e | e | e | e | e <;> omega
theorem itoa_le {n : Int} (h0 : 0 ≤ n) (h1 : n ≤ 1000000000) : (Lib.itoa n).length ≤ 1000000001 := by
  unfold Lib.itoa
  rw [if_neg (by omega)]
  have := dec_le n.toNat
  omega
theorem joinTail_le : ∀ (r : List (List UInt8)) (B : Nat), (∀ x ∈ r, x.length ≤ B) → (Lib.joinTail [32] r).length ≤ r.length * (B + 1)
  | [], _, _ => by simp [Lib.joinTail]
  | x :: r, B, h => by
    have ih := joinTail_le r B fun y hy => h y (by simp [hy])
    have hx := h x (by simp)
    simp only [Lib.joinTail, List.map_cons, List.flatten_cons, List.length_append, List.length_cons, List.length_nil, Nat.succ_mul] at ih ⊢
    omega

set_option maxHeartbeats 6400000 in
theorem show_ok (a : Wr) (w : World) (hs : a.name.size ≤ maxLen) (h0 : chk a = 0) (hT : Tabs w) :
    Calls Tryz.prog 23 #[wv a] w fun e w' => e = .returned (.tuple #[.string ⟨(showL a).toArray⟩, .int .i64 0]) ∧ Below w.heap.size w w' := by
  have hk13 := inR_iff.1 (chk_in h0).2.1
  obtain ⟨kd, hK⟩ : ∃ kd : Nat, a.kind = kd := ⟨a.kind.toNat, by omega⟩
  have hK1 : 1 ≤ kd := by omega
  have hK3 : kd < 4 := by omega
  obtain ⟨kw, hkw⟩ : ∃ kw, kwL[kd]? = some kw := ⟨kwL[kd]'(by simpa [kwL] using hK3), by simp⟩
  have HKW : Hid (kwL.getD a.kind.toNat [] = kw) := show _ = _ by rw [hK, Int.toNat_natCast, List.getD_eq_getElem?_getD, hkw]; rfl
  have hn16 : a.name.size ≤ 16 := (lab_in (chk_in h0).1).2
  have hkl : kw.length ≤ 5 := by
    have hm := List.mem_of_getElem? hkw
    exact (by decide : ∀ x ∈ kwL, x.length ≤ 5) kw hm
  have HNS : Hid (∀ n ∈ numsL a, 0 ≤ n ∧ n ≤ 1000000000) := chk_nums h0
  have HCH : Hid (chk a = 0) := h0
  have HK : Hid (a.kind = kd) := hK
  have HKQ : Hid (kwL[kd]? = some kw) := hkw
  have HT : Hid (Tabs w) := hT
  have i0 : (0 : Int) ≤ (kd : Int) := by omega
  have i1 : (kd : Int) < 4 := by omega
  clear hk13 hK hkw h0 hT
  go_enter Tryz.func23, Tryz.ntmps23
  go_wp2_with fail
  refine (check_any a _ hs).mono ?_
  rintro e w2 ⟨rfl, hb⟩
  rw [HCH.out]
  have hB2 : Below w.heap.size w w2 := ((Below.refl _ _).alloc (Nat.le_refl _) _).trans (hb.mono (by simp))
  have e0 : w2.cell? ⟨w.heap.size, 0, none⟩ = some (.string a.name) := cell_later hb (by go_simp)
  have e1 : w2.cell? ⟨w.heap.size, 1, none⟩ = some (.int .i64 (kd : Int)) := by rw [← HK.out]; exact cell_later hb (by go_simp)
  have hnum : ∀ k, k < 10 → w2.cell? ⟨w.heap.size, k + 2, none⟩ = some (.int .i64 ((numsL a).getD k 0)) := fun k hk => cell_later hb (by
    rcases (show k = 0 ∨ k = 1 ∨ k = 2 ∨ k = 3 ∨ k = 4 ∨ k = 5 ∨ k = 6 ∨ k = 7 ∨ k = 8 ∨ k = 9 by omega) with e | e | e | e | e | e | e | e | e | e
    all_goals (subst e; simp [go_sem, numsL]))
  have HNUM : Hid (∀ k, k < 10 → w2.cell? ⟨w.heap.size, k + 2, none⟩ = some (.int .i64 ((numsL a).getD k 0))) := hnum
  have ek : w2.cell? ⟨0, kd, none⟩ = some (.string ⟨kw.toArray⟩) := (HT.out.next hB2).kw kd kw HKQ.out
  have lt2 : w.heap.size + 1 ≤ w2.heap.size := by have := hb.size; simp at this; omega
  clear hb hnum
  go_wp2_with fail
  refine region_inv [false, false, false, false, false, true, false, false, false, false, false, false, false, true, true, true, true, true, true, true, false, false, false, false, false, false, false, false, false, false, false, false, false, false, false, false]
    [(13, [], none), (14, [13], none), (15, [], none), (16, [15], none), (17, [16], none), (18, [17], none), (19, [14, 18], none), (5, [19], none)]
    (show4V a kd kw w.heap.size (w.heap.size + 1)) (by kernel_rfl) (by kernel_rfl) (show4V_mono a kd kw w.heap.size (w.heap.size + 1)) ?_ ?_
  · refine ⟨?_, ?_, ?_, ?_, ?_, ?_, ?_, ?_, trivial⟩
    · intro f w1 hb _ K hK
      simp only [over, overL, Nat.reduceAdd]
      go_simp
      exact hK _ _ ⟨_, rfl, by simp only [over, overL, Nat.reduceAdd]; rfl, Below.refl _ _⟩
    · intro f w1 hb ⟨h13, _⟩ K hK
      have h13 : f 13 = _ := h13
      have cl : w1.cell? ⟨w.heap.size, 0, none⟩ = some (.string a.name) := cell_later hb e0
      simp only [over, overL, Nat.reduceAdd, h13]
      go_simp
      exact hK _ _ ⟨_, rfl, by simp only [over, overL, Nat.reduceAdd, h13]; rfl, Below.refl _ _⟩
    · intro f w1 hb _ K hK
      simp only [over, overL, Nat.reduceAdd]
      go_simp
      exact hK _ _ ⟨_, rfl, by simp only [over, overL, Nat.reduceAdd]; rfl, Below.refl _ _⟩
    · intro f w1 hb ⟨h15, _⟩ K hK
      have h15 : f 15 = _ := h15
      have cl : w1.cell? ⟨w.heap.size, 1, none⟩ = some (.int .i64 (kd : Int)) := cell_later hb e1
      simp only [over, overL, Nat.reduceAdd, h15]
      go_simp
      exact hK _ _ ⟨_, rfl, by simp only [over, overL, Nat.reduceAdd, h15]; rfl, Below.refl _ _⟩
    · intro f w1 hb ⟨h16, _⟩ K hK
      have h16 : f 16 = _ := h16
      simp only [over, overL, Nat.reduceAdd, h16]
      go_simp
      exact hK _ _ ⟨_, rfl, by simp only [over, overL, Nat.reduceAdd, h16]; rfl, Below.refl _ _⟩
    · intro f w1 hb ⟨h17, _⟩ K hK
      have h17 : f 17 = _ := h17
      have cl : w1.cell? ⟨0, kd, none⟩ = some (.string ⟨kw.toArray⟩) := cell_later hb ek
      simp only [over, overL, Nat.reduceAdd, h17]
      go_simp
      exact hK _ _ ⟨_, rfl, by simp only [over, overL, Nat.reduceAdd, h17]; rfl, Below.refl _ _⟩
    · intro f w1 hb ⟨h14, h18, _⟩ K hK
      have h14 : f 14 = _ := h14
      have h18 : f 18 = _ := h18
      simp only [over, overL, Nat.reduceAdd, h14, h18]
      go_simp
      exact hK _ _ ⟨_, new_two _ _ _ _ _ (by have := hb.size; omega), by simp only [over, overL, Nat.reduceAdd, h14, h18]; rfl, (Below.refl _ _).alloc (Nat.le_refl _) _⟩
    · intro f w1 hb ⟨h19, _⟩ K hK
      simp only [over, overL, Nat.reduceAdd]
      go_simp
      exact hK _ _ ⟨_, h19, by simp only [over, overL, Nat.reduceAdd]; rfl, Below.refl _ _⟩
  · intro f w3 hb3 h
    have h5 : OwnS w3 (w.heap.size + 1) (f 5) [a.name, ⟨kw.toArray⟩] := h.2.2.2.2.2.2.2.1
    simp only [over_eq, overL, Nat.reduceAdd]
    have hB3 : Below w.heap.size w w3 := hB2.trans (hb3.mono hB2.size)
    have HNUM3 : Hid (∀ k, k < 10 → w3.cell? ⟨w.heap.size, k + 2, none⟩ = some (.int .i64 ((numsL a).getD k 0))) := fun k hk => cell_later hb3 (HNUM.out k hk)
    have lt3 : w.heap.size + 1 ≤ w3.heap.size := Nat.le_trans lt2 hb3.size
    clear h hb3 e0 e1 ek
    generalize f 5 = v5 at *
    have HO5 : Hid (OwnS w3 (w.heap.size + 1) v5 [a.name, ⟨kw.toArray⟩]) := h5
    obtain ⟨ao5, cap5, rfl⟩ := h5.shape
    clear h5
    go_wp2_with fail
    refine (numbers_any _ _).mono ?_
    rintro e w4 ⟨vp, rfl, ⟨b, rfl, hptr⟩, hb4⟩
    have HP : Hid (∀ k, k < 10 → w4.cell? ⟨b, k, none⟩ = some (.pointer (some ⟨w.heap.size, k + 2, none⟩))) := hptr
    have HNUM4 : Hid (∀ k, k < 10 → w4.cell? ⟨w.heap.size, k + 2, none⟩ = some (.int .i64 ((numsL a).getD k 0))) := fun k hk => cell_later hb4 (HNUM3.out k hk)
    have HB4 : Hid (Below w.heap.size w w4) := hB3.trans (hb4.mono hB3.size)
    have HO4 : Hid (OwnS w4 (w.heap.size + 1) (.slice ao5 [a.name, (⟨kw.toArray⟩ : ByteArray)].length cap5) [a.name, ⟨kw.toArray⟩]) := HO5.out.later hb4
    have lt4 : w.heap.size + 1 ≤ w4.heap.size := Nat.le_trans lt3 hb4.size
    have HNE : Hid ((Value.slice ao5 [a.name, (⟨kw.toArray⟩ : ByteArray)].length cap5).ownBlock ≠ some b) := fun hb => by
      obtain ⟨g, cap, hv, _, _, hc⟩ := HO4.out.read (by simp)
      rw [hv] at hb
      have e : g = b := by simpa [Value.ownBlock] using hb
      have h1 := hc 0 a.name rfl
      have h2 := HP.out 0 (by decide)
      rw [e] at h1
      simp only [Nat.zero_add] at h1
      rw [h2] at h1
      cases h1
    clear hptr hb4 hB3
    generalize [a.name, (⟨kw.toArray⟩ : ByteArray)].length = n5 at *
    go_wp2_with fail
    go_loopw [5, 22] (fun v i wr => ∃ k : Nat, k ≤ 10 ∧ i = .int .i64 k ∧ OwnS wr (w.heap.size + 1) v ([a.name, ⟨kw.toArray⟩] ++ ((numsL a).take k).map itoaA) ∧ Below (w.heap.size + 1) w4 wr ∧ (∀ j, j < 10 → wr.cell? ⟨b, j, none⟩ = some (.pointer (some ⟨w.heap.size, j + 2, none⟩))) ∧ v.ownBlock ≠ some b) (fun _ i _ => 10 - (intOf i).toNat)
    case atStart => exact ⟨0, by omega, rfl, by simpa using HO4.out, Below.refl _ _, HP.out, HNE.out⟩
    case round =>
      obtain ⟨k, hk10, rfl, hown, hbr, hpr, hnb⟩ := hrel
      have HOW : Hid (OwnS wr (w.heap.size + 1) u5 ([a.name, ⟨kw.toArray⟩] ++ ((numsL a).take k).map itoaA)) := hown
      have HBR : Hid (Below (w.heap.size + 1) w4 wr) := hbr
      have HPR : Hid (∀ j, j < 10 → wr.cell? ⟨b, j, none⟩ = some (.pointer (some ⟨w.heap.size, j + 2, none⟩))) := hpr
      have HNB : Hid (u5.ownBlock ≠ some b) := hnb
      have HTR : Hid (Tabs wr) := HT.out.next (HB4.out.trans (hbr.mono (by omega)))
      have HSZ : Hid (w.heap.size + 1 ≤ wr.heap.size) := Nat.le_trans lt4 hbr.size
      by_cases hk : k < 10
      · have hp := hpr k hk
        obtain ⟨n, hn⟩ : ∃ n, n = (numsL a).getD k 0 := ⟨_, rfl⟩
        have HN : Hid (n = (numsL a).getD k 0) := hn
        have hv : wr.cell? ⟨w.heap.size, k + 2, none⟩ = some (.int .i64 n) := by
          rw [hn]
          exact (hbr.cell (p := ⟨w.heap.size, k + 2, none⟩) (by show w.heap.size < w.heap.size + 1; omega)).trans (HNUM4.out k hk)
        have hnl : (numsL a)[k]? = some n := by
          rw [hn, List.getD_eq_getElem?_getD]
          have hl : k < (numsL a).length := by simpa [numsL] using hk
          rw [List.getElem?_eq_getElem hl]; rfl
        have hn01 := HNS.out n (List.mem_of_getElem? hnl)
        have HNL : Hid ((numsL a)[k]? = some n) := hnl
        clear hown hbr hpr hnb hn hnl
        obtain ⟨n0, n1⟩ := hn01
        go_wp2_with fail
        refine (itoaB n (by omega) (by omega) _ HTR.out.pow).mono ?_
        rintro e w5 ⟨rfl, hb5⟩
        have HO6 : Hid (OwnS w5 (w.heap.size + 1) u5 ([a.name, ⟨kw.toArray⟩] ++ ((numsL a).take k).map itoaA)) := HOW.out.later hb5
        have HB5 : Hid (Below wr.heap.size wr w5) := hb5
        clear hb5
        go_wp2_with (at_builtin; refine wpList_append_str _ rfl (.tmp 26) (.tmp 31) rfl (w.heap.size + 1) u5 _ rfl (HO6.out.later ((Below.refl _ _).alloc (Nat.le_refl _) _)) w5.heap.size ⟨(Lib.itoa n).toArray⟩ rfl (by go_simp) (by simp [numsL]; omega) (by have h1 := HSZ.out; have h2 := HB5.out.size; simp; omega) ?_; intro v' w6 hown1 hg hloc)
        go_roundw
        case rel =>
          have hw5 : Below (w.heap.size + 1) w4 (w5.alloc (.cells #[.string ⟨(Lib.itoa n).toArray⟩] 9)) := (HBR.out.trans (HB5.out.mono HSZ.out)).alloc (by have h1 := HSZ.out; have h2 := HB5.out.size; omega) _
          have hbl : b < wr.heap.size := World.block_lt_of_cell? _ _ (HPR.out 0 (by decide))
          have hb56 : Below wr.heap.size wr (w5.alloc (.cells #[.string ⟨(Lib.itoa n).toArray⟩] 9)) := HB5.out.alloc HB5.out.size _
          refine ⟨k + 1, by omega, by go_num, ?_, ?_, ?_, ?_⟩
          · rw [List.take_add_one, HNL.out]
            simpa [itoaA] using hown1
          · exact hw5.grown hg (by have h1 := HSZ.out; have h2 := HB5.out.size; simp; omega) (fun g hg => (World.ownsRow.lt HOW.out g hg).1)
          · intro j hj
            exact hg.cell (cell_later hb56 (HPR.out j hj)) (fun e => HNB.out e.symm)
          · rcases hloc with h | h
            · rw [h]; exact HNB.out
            · rw [h]; intro e
              have h2 := HB5.out.size
              simp at e; omega
        case measure => simp [intOf]; omega
      · obtain ⟨xs, hxs⟩ : ∃ xs, xs = [a.name, (⟨kw.toArray⟩ : ByteArray)] ++ (numsL a).map itoaA := ⟨_, rfl⟩
        have hx : OwnS wr (w.heap.size + 1) u5 xs := by
          have := HOW.out
          rw [List.take_of_length_le (by simp [numsL]; omega)] at this
          rw [hxs]; exact this
        have HXM : Hid (xs.map (·.data.toList) = wordsL a) := show _ = _ by
          rw [hxs, wordsL, HKW.out]
          simp [itoaA]
        have hx12 : xs.length = 12 := by rw [hxs]; simp [numsL]
        have HLEN : Hid ((Lib.join (xs.map (·.data.toList)) [32]).length ≤ 140737488355328) := show _ ≤ _ by
          rw [HXM.out, wordsL, Lib.join_cons, List.length_append]
          have h1 : a.name.data.toList.length ≤ 16 := by rw [lenL]; exact hn16
          have h2 := joinTail_le (kwL.getD a.kind.toNat [] :: (numsL a).map Lib.itoa) 1000000001 (by
            intro x hx
            rcases List.mem_cons.1 hx with e | e
            · rw [e, HKW.out]; omega
            · obtain ⟨n, hn, rfl⟩ := List.mem_map.1 e
              have := HNS.out n hn
              exact itoa_le this.1 this.2)
          have h3 : (kwL.getD a.kind.toNat [] :: (numsL a).map Lib.itoa).length = 11 := by simp [numsL]
          rw [h3] at h2
          omega
        obtain ⟨g, cap, rfl, hg, hcap, hc⟩ := hx.read (by intro e; rw [e] at hx12; simp at hx12)
        have HCELL : Hid (∀ (j : Nat) x, xs[j]? = some x → wr.cell? ⟨g, 0 + j, none⟩ = some (.string x)) := hc
        have hN : xs.length ≤ 140737488355328 := by omega
        clear hxs hx hown hbr hpr hnb hc hx12
        go_wp2_with fail
        refine (Tryz.strings_Join g 0 cap xs ⟨#[32]⟩ _ HCELL.out hg hN hcap (by exact HLEN.out)).mono ?_
        rintro e w7 ⟨rfl, hb7⟩
        go_wp2
        refine bodyPost_ret (v := .tuple #[.string ⟨(Lib.join (xs.map (·.data.toList)) [32]).toArray⟩, .int .i64 0]) (by simp [results, Tryz.results23, go_sem]) rfl ⟨by rw [HXM.out]; rfl, ?_⟩
        have h1 : Below w.heap.size w wr := HB4.out.trans (HBR.out.mono (by omega))
        exact h1.trans (hb7.mono h1.size)
end Go.Proofs.YtmmpaaaifdikdaaGreatDoor
