/- The document's splitAt at line feeds, SourceLine, walked. -/
import Derived.Test.YtpfpfnkagmmanaaGreatDoorLn
import Derived.Test.YtpfpfnkagmmanaaGreatDoorRfM
namespace Go.Proofs.YtpfpfnkagmmanaaGreatDoor
open Go.RowKit Go.Shelf

theorem Tryz.infoS : (Tryz.prog.info? 9).map (fun i => (i.zero, i.size, i.bytes)) = some (some (.string ⟨#[]⟩), 1, 16) := by kernel_rfl
def cellsS (xs : List (List UInt8)) : List Value := xs.map fun x => Value.string ⟨x.toArray⟩
/-- The call's own texts. -/
def OwnS (w : World) (base : Nat) (v : Value) (xs : List (List UInt8)) : Prop := w.ownsRow base 9 1 v xs.length (cellsS xs)
theorem OwnS.nil (w : World) (base : Nat) : OwnS w base (.slice none 0 0) [] := World.ownsRow_nil w base 9 1
theorem OwnS.later {w w' : World} {base : Nat} {v : Value} {xs : List (List UInt8)} (h : OwnS w base v xs) (hb : Below w.heap.size w w') : OwnS w' base v xs := owns_later h hb
theorem OwnS.read {w : World} {base : Nat} {v : Value} {xs : List (List UInt8)} (h : OwnS w base v xs) (hne : xs ≠ []) : ∃ g cap, v = .slice (some ⟨g, 0, none⟩) xs.length cap ∧ ∀ k (hk : k < xs.length), w.cell? ⟨g, k, none⟩ = some (.string ⟨(xs[k]'hk).toArray⟩) := by
  rcases h.2 with ⟨_, h2⟩ | ⟨g, cap', cur, h1, h2, h3, h4⟩
  · exact absurd (List.eq_nil_of_length_eq_zero h2) hne
  · subst h1
    refine ⟨g, cap', rfl, fun k hk => ?_⟩
    have e := World.ownsRow.cellAt h k (by omega)
    refine e.trans ?_
    simp [cellsS, hk]
theorem wpList_append_str (w : World) {ops : Array Oper} {rest : List Oper} {o : Oper} {a : Act} {Q : Exit → Act → World → Prop} (hgd : o.guard = none) (s x : Operand)
    (ho : o.op = .call { callee := .builtin .append, args := #[s, x], argTypes := #[40, 40] }) (base : Nat) (v : Value) (xs : List (List UInt8)) (hs : a.eval s = v) (hown : OwnS w base v xs)
    (b : Nat) (y : List UInt8) (hx : a.eval x = .slice (some ⟨b, 0, none⟩) 1 1) (h0 : w.cell? ⟨b, 0, none⟩ = some (.string ⟨y.toArray⟩)) (hlen : xs.length ≤ 2000000) (hbase : base ≤ w.heap.size)
    (h : ∀ v' w', OwnS w' base v' (xs ++ [y]) → w.grownBy w' v.ownBlock → wpList Tryz.prog ops Q rest (a.put o.dst v') w') :
    wpList Tryz.prog ops Q (o :: rest) a w := by
  obtain ⟨i0, hi, hz0, hz1, hz2⟩ := info_parts Tryz.infoS
  refine wpList_append_own_at w hgd s x 40 ho base 9 i0 (.string ⟨#[]⟩) 1 16 Tryz.underlying40 hi hz0 hz1 hz2 rfl (by decide) v xs.length (cellsS xs) hs hown ⟨b, 0, none⟩ 1 1 [.string ⟨y.toArray⟩] hx rfl ?_ ?_ ?_ ?_ hbase ?_
  · intro j u hj
    match j, hj with
    | 0, hj => simp at hj; subst hj; simpa [Addr.add] using h0
  · intro u hu
    simp at hu
    subst hu; rfl
  · unfold maxLen; omega
  · omega
  · intro v' w' h1 h2 _ h4
    refine h v' w' ?_ h2
    unfold OwnS cellsS
    rw [List.map_append, List.length_append]
    exact h1
/-- Lines, with what is read of the first. -/
def splN (cur : List UInt8) : List UInt8 → List (List UInt8)
  | [] => [cur]
  | b :: r => if b = 10 then cur :: splN [] r else splN (cur ++ [b]) r
theorem splN_lns : ∀ (l cur : List UInt8), splN cur l = match lns l with | [] => [cur] | x :: xs => (cur ++ x) :: xs
  | [], cur => by simp [splN, lns]
  | b :: r, cur => by
    unfold splN lns
    split
    · rename_i hb
      rw [splN_lns r []]
      have hne := lns_ne r
      match h : lns r, hne with
      | y :: ys, _ => simp
    · rw [splN_lns r (cur ++ [b])]
      have hne := lns_ne r
      match h : lns r, hne with
      | y :: ys, _ => simp
theorem splN_nil (l : List UInt8) : splN [] l = lns l := by
  rw [splN_lns]
  have hne := lns_ne l
  match h : lns l, hne with
  | y :: ys, _ => simp
theorem ext_one {s : ByteArray} {k : Nat} (h : k < s.size) : s.extract k (k + 1) = ⟨#[s[k]'h]⟩ := by
  apply ByteArray.ext
  rw [ByteArray.data_extract]
  have h' : k < s.data.size := h
  apply Array.ext
  · simp; omega
  · intro i h1 h2
    simp at h2
    subst h2
    simp
    rfl
theorem cat_one (c : List UInt8) (b : UInt8) : (⟨c.toArray⟩ : ByteArray) ++ ⟨#[b]⟩ = ⟨(c ++ [b]).toArray⟩ := by
  apply ByteArray.ext
  rw [ByteArray.data_append]
  simp
set_option maxHeartbeats 3200000 in
theorem splitAt_any (s : ByteArray) (w : World) (hs : s.size ≤ 1048576) :
    Calls Tryz.prog 16 #[.string s, .int .u8 10] w fun e w' => ∃ v, e = .returned v ∧ OwnS w' w.heap.size v (lns s.data.toList) ∧ Below w.heap.size w w' := by
  go_enter Tryz.func16, Tryz.ntmps16
  go_wp2_with fail
  go_loopw [5, 6, 7] (fun v c i wr => ∃ (pos : Nat) (xs : List (List UInt8)) (cur : List UInt8), pos ≤ s.size ∧ c = .string ⟨cur.toArray⟩ ∧ i = .int .i64 pos ∧ cur.length ≤ pos ∧ xs.length ≤ pos ∧ OwnS wr w.heap.size v xs ∧ Below w.heap.size w wr ∧ xs ++ splN cur (s.data.toList.drop pos) = lns s.data.toList) (fun _ _ i _ => s.size - (intOf i).toNat)
  case atStart => exact ⟨0, [], [], Nat.zero_le _, rfl, rfl, Nat.le_refl _, Nat.le_refl _, OwnS.nil _ _, Below.refl _ _, by simp [splN_nil]⟩
  case round =>
    obtain ⟨pos, xs, cur, hpos, rfl, rfl, hcs, hxl, hown, hbr, heq⟩ := hrel
    have HO : Hid (OwnS wr w.heap.size u5 xs) := hown
    have HB : Hid (Below w.heap.size w wr) := hbr
    have HE : Hid (xs ++ splN cur (s.data.toList.drop pos) = lns s.data.toList) := heq
    have HL : Hid (xs.length ≤ pos) := hxl
    have HSZ : Hid (w.heap.size ≤ wr.heap.size) := hbr.size
    clear hown hbr heq hxl
    by_cases hp : pos < s.size
    · obtain ⟨c, hc⟩ : ∃ c : UInt8, s[pos]'hp = c := ⟨_, rfl⟩
      have HC : Hid (s[pos]'hp = c) := hc
      by_cases h10 : c = 10
      · have HC2 : Hid (c = 10) := h10
        have he : ((c.toNat : Int) == 10) = true := by rw [h10]; decide
        clear h10
        go_wp2_with (at_builtin; refine wpList_append_str _ rfl (.tmp 19) (.tmp 21) rfl w.heap.size u5 _ rfl (HO.out.later ((Below.refl _ _).alloc (Nat.le_refl _) _)) wr.heap.size cur rfl (by go_simp) (by have := HL.out; omega) (by have h1 := HSZ.out; simp; omega) ?_; intro v' w6 hown1 hg)
        go_roundw
        case rel =>
          have hw5 : Below w.heap.size w (wr.alloc (.cells #[.string ⟨cur.toArray⟩] 9)) := HB.out.alloc HSZ.out _
          refine ⟨pos + 1, xs ++ [cur], [], by omega, rfl, by go_num, Nat.zero_le _, by have := HL.out; simp; omega, hown1, hw5.grown hg (by have h1 := HSZ.out; simp; omega) (fun g hg => (World.ownsRow.lt HO.out g hg).1), ?_⟩
          rw [← HE.out, drop_at hp, HC.out, HC2.out, splN, if_pos rfl]
          simp
        case measure => simp [intOf]; omega
      · have HC2 : Hid (c ≠ 10) := h10
        have he : ((c.toNat : Int) == 10) = false := by have := nat_ne h10; simp at this ⊢; omega
        have hx1 := ext_one hp
        rw [hc] at hx1
        have hcz := cat_one cur c
        have z1 : ¬ 9223372036854775807 < cur.length + 1 := by omega
        clear h10
        go_wp2
        go_roundw
        case rel =>
          refine ⟨pos + 1, xs, cur ++ [c], by omega, rfl, by go_num, by simp; omega, by have := HL.out; omega, HO.out, HB.out, ?_⟩
          rw [← HE.out, drop_at hp, HC.out]
          conv => rhs; rw [splN, if_neg HC2.out]
        case measure => simp [intOf]; omega
    · have hpe : s.data.toList.drop pos = [] := List.drop_eq_nil_of_le (by rw [lenL]; omega)
      have HD : Hid (s.data.toList.drop pos = []) := hpe
      clear hpe
      go_wp2_with (at_builtin; refine wpList_append_str _ rfl (.tmp 30) (.tmp 32) rfl w.heap.size u5 _ rfl (HO.out.later ((Below.refl _ _).alloc (Nat.le_refl _) _)) wr.heap.size cur rfl (by go_simp) (by have := HL.out; omega) (by have h1 := HSZ.out; simp; omega) ?_; intro v' w6 hown1 hg)
      go_ret
      have hw5 : Below w.heap.size w (wr.alloc (.cells #[.string ⟨cur.toArray⟩] 9)) := HB.out.alloc HSZ.out _
      have hA : xs ++ [cur] = lns s.data.toList := by rw [← HE.out, HD.out, splN]
      rw [← hA]
      exact ⟨v', rfl, hown1, hw5.grown hg (by have h1 := HSZ.out; simp; omega) (fun g hg => (World.ownsRow.lt HO.out g hg).1)⟩
end Go.Proofs.YtpfpfnkagmmanaaGreatDoor
