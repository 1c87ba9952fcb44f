/- deck.Show walked. -/
import Derived.Test.YtmmpaaaifdikdaaGreatDoorDH
import Derived.Test.YtmmpaaaifdikdaaGreatDoorDL
import Derived.Test.YtmmpaaaifdikdaaGreatDoorBld
import Derived.Lib.SmallJoins
namespace Go.Proofs.YtmmpaaaifdikdaaGreatDoor
open Go.RowKit Go.Shelf

theorem BuilderAt_later {T e B b : Nat} {p : Value} {bs : List Value} {w w' : World} (h : Lib.BuilderAt T e B b p bs w) (hb : Below w.heap.size w w') : Lib.BuilderAt T e B b p bs w' := by
  obtain ⟨h1, v, h2, h3, h4⟩ := h
  exact ⟨h1, v, by rw [hb.block b (Array.getElem?_eq_some_iff.1 h2).1]; exact h2, owns_later h3 hb, h4⟩
theorem IsBuilder_later {T e B b : Nat} {bs : List Value} {w w' : World} (h : Lib.IsBuilder T e B b bs w) (hb : Below w.heap.size w w') : Lib.IsBuilder T e B b bs w' :=
  h.elim (fun h => .inl (BuilderAt_later h hb)) (fun h => .inr (BuilderAt_later h hb))
theorem IsBuilder_new (w : World) : Lib.IsBuilder 65 5 w.heap.size w.heap.size [] (w.alloc (.cells #[.pointer none, .slice none 0 0] 65)) :=
  .inl ⟨Nat.le_refl _, .slice none 0 0, by show (w.heap.push _)[w.heap.size]? = _; simp, World.ownsRow_nil _ _ _ _, by simp [Value.ownBlock]⟩
theorem write_line (B : Nat) (a b : List UInt8) (w : World) (h : Lib.IsBuilder 65 5 B B (Lib.byteCells a) w) (hl : a.length + b.length ≤ 140737488355328) (hB : B ≤ w.heap.size) :
    Calls Tryz.prog 24 #[.pointer (some ⟨B, 0, none⟩), .string ⟨b.toArray⟩] w fun e w' => ∃ n : Nat, e = .returned (.tuple #[.int .i64 n, .nilIface]) ∧ Lib.IsBuilder 65 5 B B (Lib.byteCells (a ++ b)) w' ∧ Below B w w' := by
  refine (Tryz.Builder_WriteString B B (Lib.byteCells a) ⟨b.toArray⟩ w h (by rw [Lib.byteCells_length]; simpa [ByteArray.size] using hl) hB).mono ?_
  rintro e w' ⟨rfl, h1, h2⟩
  rw [Lib.strCells_toArray, ← Lib.byteCells_append] at h1
  exact ⟨_, rfl, .inr h1, h2⟩
/-- What a deck is shown as. -/
def deckL (l : List Sit) : List UInt8 := (l.map fun s => lineL s ++ [10]).flatten
theorem deckL_succ {l : List Sit} {k : Nat} (h : k < l.length) : deckL (l.take (k + 1)) = deckL (l.take k) ++ (lineL (l[k]'h) ++ [10]) := by
  unfold deckL
  rw [List.take_succ_eq_append_getElem h, List.map_append, List.flatten_append]
  simp
theorem joinTail_cons (x : List UInt8) (r : List (List UInt8)) : Lib.joinTail [32] (x :: r) = [32] ++ x ++ Lib.joinTail [32] r := by simp [Lib.joinTail]
theorem line_eq (s : Sit) : lineL s = Lib.itoa s.slot ++ [32] ++ s.name.data.toList ++ [32] ++ showL s.ware := by
  unfold lineL lwords showL wordsL
  rw [Lib.join_cons, Lib.join_cons, joinTail_cons, joinTail_cons]
  simp
theorem line_bytes (dg sh : List UInt8) (s : Sit) (hd : Lib.itoa s.slot = dg) (hs : showL s.ware = sh) : (⟨dg.toArray⟩ : ByteArray) ++ ⟨#[32]⟩ ++ s.name ++ ⟨#[32]⟩ ++ ⟨sh.toArray⟩ ++ ⟨#[10]⟩ = ⟨(lineL s ++ [10]).toArray⟩ := by
  have e : ∀ a b : ByteArray, a.data.toList = b.data.toList → a = b := fun a b h => ByteArray.ext (Array.ext' h)
  apply e
  rw [line_eq, hd, hs]
  simp only [Go.Joins.data_append, List.append_assoc]
theorem deckL_take_le {l : List Sit} (h : Good l) : ∀ k, k ≤ l.length → (deckL (l.take k)).length ≤ k * 301 := by
  intro k
  induction k with
  | zero => intro _; simp [deckL]
  | succ k ih =>
    intro hk
    rw [deckL_succ (by omega), List.length_append, List.length_append]
    have h1 := ih (by omega)
    obtain ⟨a, b, _⟩ := h.each _ (List.getElem_mem (show k < l.length by omega))
    have h2 := (line_size a b).1
    simp only [List.length_cons, List.length_nil]
    omega
theorem deckL_le {l : List Sit} (h : Good l) : (deckL l).length ≤ 4000 := by
  have := deckL_take_le h l.length (Nat.le_refl _)
  rw [List.take_length] at this
  have := h.len
  omega
set_option maxHeartbeats 1600000 in
theorem deckShow_err (ao : Option Addr) (cap : Nat) (l : List Sit) (w : World) (hL : Sts w ao l) (hcap : l.length ≤ cap) (hl : l.length ≤ 9223372036854775807) (hok : ∀ s ∈ l, SOk s) (hd : dchk l ≠ 0) :
    Calls Tryz.prog 8 #[.slice ao l.length cap] w fun e w' => e = .returned (.tuple #[.string ⟨#[]⟩, .int .i64 (dchk l)]) ∧ Below w.heap.size w w' := by
  have HC := deckCheck_any ao cap l w hL hcap hl hok
  have hne : (dchk l != 0) = true := by simp [hd]
  clear hL hok hd
  generalize dchk l = e0 at *
  go_enter Tryz.func8, Tryz.ntmps8
  go_wp2_with (go_at_call 6; refine Calls.mono HC ?_; rintro e w1 ⟨rfl, hb⟩)
  refine bodyPost_ret (v := .tuple #[.string ⟨#[]⟩, .int .i64 e0]) (by simp [results, Tryz.results8, go_sem]) rfl ⟨rfl, hb⟩
def shV (s : Sit) (dg sh : List UInt8) (S : Nat) (d : Nat) (v : Value) (_ : World) : Prop :=
  match d with
  | 27 => v = .pointer (some ⟨S, 0, none⟩)
  | 28 => v = .int .i64 s.slot
  | 29 => v = .string ⟨dg.toArray⟩
  | 30 => v = .string (⟨dg.toArray⟩ ++ ⟨#[32]⟩)
  | 31 => v = .pointer (some ⟨S, 13, none⟩)
  | 32 => v = .string s.name
  | 33 => v = .string (⟨dg.toArray⟩ ++ ⟨#[32]⟩ ++ s.name)
  | 34 => v = .string (⟨dg.toArray⟩ ++ ⟨#[32]⟩ ++ s.name ++ ⟨#[32]⟩)
  | 35 => v = .string ⟨sh.toArray⟩
  | 36 => v = .string (⟨dg.toArray⟩ ++ ⟨#[32]⟩ ++ s.name ++ ⟨#[32]⟩ ++ ⟨sh.toArray⟩)
  | 37 => v = .string (⟨dg.toArray⟩ ++ ⟨#[32]⟩ ++ s.name ++ ⟨#[32]⟩ ++ ⟨sh.toArray⟩ ++ ⟨#[10]⟩)
  | _ => True
set_option maxHeartbeats 1600000 in
set_option maxRecDepth 100000 in
theorem deckShow_ok (ao : Option Addr) (cap : Nat) (l : List Sit) (w : World) (hT : Tabs w) (hL : Sts w ao l) (hcap : l.length ≤ cap) (hg : Good l) :
    Calls Tryz.prog 8 #[.slice ao l.length cap] w fun e w' => e = .returned (.tuple #[.string ⟨(deckL l).toArray⟩, .int .i64 0]) ∧ Below w.heap.size w w' := by
  obtain ⟨txt, htxt⟩ : ∃ txt, txt = deckL l := ⟨_, rfl⟩
  have HTXT : Hid (txt = deckL l) := htxt
  rw [← htxt]
  clear htxt
  have h12 := hg.len
  have HC : Hid (Calls Tryz.prog 6 #[.slice ao l.length cap] w fun e w' => e = .returned (.int .i64 0) ∧ Below w.heap.size w w') := by
    have := deckCheck_any ao cap l w hL hcap (by omega) hg.ok
    rw [dchk_zero.2 hg] at this
    exact this
  have HT : Hid (Tabs w) := hT
  have HL : Hid (Sts w ao l) := hL
  have HG : Hid (Good l) := hg
  clear hL hT hg
  go_enter Tryz.func8, Tryz.ntmps8
  go_wp2_with fail
  refine Calls.mono HC.out ?_
  rintro e w1 ⟨rfl, hb1⟩
  have HB1 : Hid (Below w.heap.size w w1) := hb1
  clear hb1 HC
  go_wp2_with fail
  go_loopw [17] (fun i wr => ∃ k : Nat, k ≤ l.length ∧ i = .int .i64 k ∧ Lib.IsBuilder 65 5 w1.heap.size w1.heap.size (Lib.byteCells (deckL (l.take k))) wr ∧ Below w1.heap.size w1 wr) (fun i _ => l.length - (intOf i).toNat)
  case atStart => exact ⟨0, Nat.zero_le _, rfl, by simpa [deckL, Lib.byteCells] using IsBuilder_new w1, (Below.refl _ _).alloc (Nat.le_refl _) _⟩
  case round =>
    obtain ⟨k, hk, rfl, hbd, hb⟩ := hrel
    have HBD : Hid (Lib.IsBuilder 65 5 w1.heap.size w1.heap.size (Lib.byteCells (deckL (l.take k))) wr) := hbd
    have HB : Hid (Below w1.heap.size w1 wr) := hb
    have HBW : Hid (Below w.heap.size w wr) := HB1.out.trans (hb.mono HB1.out.size)
    clear hbd hb
    by_cases hlt : k < l.length
    · obtain ⟨b, off, rfl, hbx⟩ := (HL.out.next HBW.out).at hlt
      obtain ⟨hp, h0, _⟩ := HG.out.each _ (List.getElem_mem hlt)
      have HSUC : Hid (deckL (l.take (k + 1)) = deckL (l.take k) ++ (lineL (l[k]'hlt) ++ [10])) := deckL_succ hlt
      have HLE : Hid ((deckL (l.take k)).length ≤ k * 301) := deckL_take_le HG.out k (by omega)
      generalize l[k]'hlt = s at *
      have HLSZ : Hid ((lineL s).length ≤ 300) := (line_size hp h0).1
      obtain ⟨i, hi, hi13, hti⟩ := itoa_slot (plc_in hp).1 (plc_in hp).2.1
      have hdl := dec_small hi13
      have HSH : Hid (∀ W : World, Below w.heap.size w W → Calls Tryz.prog 23 #[wv s.ware] W fun e w' => e = .returned (.tuple #[.string ⟨(showL s.ware).toArray⟩, .int .i64 0]) ∧ Below W.heap.size W w') := fun W hW => show_ok s.ware W (SOk_good hp h0).1 h0 (HT.out.next hW)
      have hn16 := (lab_in (plc_in hp).2.2).2
      have hsh := (show_size h0).1
      have HIT : Hid (∀ W : World, Calls Tryz.prog 25 #[.int .i64 s.slot] W fun e w' => e = .returned (.string ⟨(Lib.decDigits i).toArray⟩) ∧ w' = W) := fun W => by rw [hi]; exact Tryz.strconv_Itoa_small i (by omega) W
      have HBY : Hid ((⟨(Lib.decDigits i).toArray⟩ : ByteArray) ++ ⟨#[32]⟩ ++ s.name ++ ⟨#[32]⟩ ++ ⟨(showL s.ware).toArray⟩ ++ ⟨#[10]⟩ = ⟨(lineL s ++ [10]).toArray⟩) := line_bytes _ _ s hti rfl
      clear hp h0 hti hi hi13
      generalize Lib.decDigits i = dg at *
      generalize showL s.ware = sh at *
      have z1 : ¬ 9223372036854775807 < dg.length + 1 := by omega
      have z2 : ¬ 9223372036854775807 < dg.length + 1 + s.name.size := by omega
      have z3 : ¬ 9223372036854775807 < dg.length + 1 + s.name.size + 1 := by omega
      have z4 : ¬ 9223372036854775807 < dg.length + 1 + s.name.size + 1 + sh.length := by omega
      have z5 : ¬ 9223372036854775807 < dg.length + 1 + s.name.size + 1 + sh.length + 1 := by omega
      obtain ⟨_, c0, c1, c2, c3, c4, c5, c6, c7, c8, c9, c10, c11, c12, c13⟩ := hbx
      have hki : (k : Int) < (l.length : Int) := by omega
      go_wp2_with fail
      refine Calls.mono (HSH.out (wr.alloc (sobj s)) (HBW.out.alloc HBW.out.size _)) ?_
      rintro e w2 ⟨rfl, hb2⟩
      have al : Below wr.heap.size wr (wr.alloc (sobj s)) := (Below.refl _ _).alloc (Nat.le_refl _) _
      have HB2 : Hid (Below w1.heap.size w1 w2) := (HB.out.alloc HB.out.size _).trans (hb2.mono (by have := HB.out.size; simp; omega))
      have HBD2 : Hid (Lib.IsBuilder 65 5 w1.heap.size w1.heap.size (Lib.byteCells (deckL (l.take k))) w2) := IsBuilder_later (IsBuilder_later HBD.out al) hb2
      have KS2 : Hid (Sf wr.heap.size s w2) := (Sf.new wr s).later hb2
      clear hb2 al HSH HBD HB HBW c0 c1 c2 c3 c4 c5 c6 c7 c8 c9 c10 c11 c12 c13
      go_wp2_with fail
      rename_i KK hkk
      have HKK := (show Hid _ from hkk)
      clear hkk
      try rw [show decide ((k : Int) < (l.length : Int)) = true by simp; omega]
      refine region_seq 11 [false, false, false, false, false, false, false, false, false, false, false, false, false, false, false, false, false, false, false, false, false, false, false, false, false, false, false, true, true, true, true, true, true, true, true, true, true, true, false, false, false]
        [(27, [], none), (28, [27], none), (29, [28], none), (30, [29], none), (31, [], none), (32, [31], none), (33, [30, 32], none), (34, [33], none), (35, [], none), (36, [34, 35], none), (37, [36], none)]
        (shV s dg sh wr.heap.size) (by kernel_rfl) (by kernel_rfl) (by kernel_rfl) (by kernel_rfl) (by kernel_rfl) (by decide) (fun _ _ _ _ h _ => h) ?_ ?_
      · refine ⟨?_, ?_, ?_, ?_, ?_, ?_, ?_, ?_, ?_, ?_, ?_, trivial⟩
        · intro f wz hb _ K hK
          simp only [over, overL, Nat.reduceAdd]
          go_simp
          exact hK _ _ ⟨_, rfl, by simp only [over, overL, Nat.reduceAdd]; rfl, Below.refl _ _⟩
        · intro f wz hb ⟨h27, _⟩ K hK
          have h27 : f 27 = _ := h27
          obtain ⟨⟨al, a0, a1, a2, a3, a4, a5, a6, a7, a8, a9, a10, a11, a12, a13⟩, _⟩ := (KS2.out).later hb
          simp only [Nat.zero_add] at a1 a2 a3 a4 a5 a6 a7 a8 a9 a10 a11 a12 a13
          simp only [over, overL, Nat.reduceAdd, h27]
          go_simp
          exact hK _ _ ⟨_, rfl, by simp only [over, overL, Nat.reduceAdd, h27]; rfl, Below.refl _ _⟩
        · intro f wz hb ⟨h28, _⟩ K hK
          have h28 : f 28 = _ := h28
          simp only [over, overL, Nat.reduceAdd, h28]
          go_simp
          refine Calls.mono (HIT.out _) ?_
          rintro e w9 ⟨rfl, hx⟩
          exact hK _ _ ⟨_, rfl, by simp only [over, overL, Nat.reduceAdd, h28]; rfl, hx ▸ Below.refl _ _⟩
        · intro f wz hb ⟨h29, _⟩ K hK
          have h29 : f 29 = _ := h29
          simp only [over, overL, Nat.reduceAdd, h29]
          go_simp
          exact hK _ _ ⟨_, rfl, by simp only [over, overL, Nat.reduceAdd, h29]; rfl, Below.refl _ _⟩
        · intro f wz hb _ K hK
          simp only [over, overL, Nat.reduceAdd]
          go_simp
          exact hK _ _ ⟨_, rfl, by simp only [over, overL, Nat.reduceAdd]; rfl, Below.refl _ _⟩
        · intro f wz hb ⟨h31, _⟩ K hK
          have h31 : f 31 = _ := h31
          obtain ⟨⟨al, a0, a1, a2, a3, a4, a5, a6, a7, a8, a9, a10, a11, a12, a13⟩, _⟩ := (KS2.out).later hb
          simp only [Nat.zero_add] at a1 a2 a3 a4 a5 a6 a7 a8 a9 a10 a11 a12 a13
          simp only [over, overL, Nat.reduceAdd, h31]
          go_simp
          exact hK _ _ ⟨_, rfl, by simp only [over, overL, Nat.reduceAdd, h31]; rfl, Below.refl _ _⟩
        · intro f wz hb ⟨h30, h32, _⟩ K hK
          have h30 : f 30 = _ := h30
          have h32 : f 32 = _ := h32
          simp only [over, overL, Nat.reduceAdd, h30, h32]
          go_simp
          exact hK _ _ ⟨_, rfl, by simp only [over, overL, Nat.reduceAdd, h30, h32]; rfl, Below.refl _ _⟩
        · intro f wz hb ⟨h33, _⟩ K hK
          have h33 : f 33 = _ := h33
          simp only [over, overL, Nat.reduceAdd, h33]
          go_simp
          exact hK _ _ ⟨_, rfl, by simp only [over, overL, Nat.reduceAdd, h33]; rfl, Below.refl _ _⟩
        · intro f wz hb _ K hK
          simp only [over, overL, Nat.reduceAdd]
          go_simp
          exact hK _ _ ⟨_, rfl, by simp only [over, overL, Nat.reduceAdd]; rfl, Below.refl _ _⟩
        · intro f wz hb ⟨h34, h35, _⟩ K hK
          have h34 : f 34 = _ := h34
          have h35 : f 35 = _ := h35
          simp only [over, overL, Nat.reduceAdd, h34, h35]
          go_simp
          exact hK _ _ ⟨_, rfl, by simp only [over, overL, Nat.reduceAdd, h34, h35]; rfl, Below.refl _ _⟩
        · intro f wz hb ⟨h36, _⟩ K hK
          have h36 : f 36 = _ := h36
          simp only [over, overL, Nat.reduceAdd, h36]
          go_simp
          exact hK _ _ ⟨_, rfl, by simp only [over, overL, Nat.reduceAdd, h36]; rfl, Below.refl _ _⟩
      intro f w4 hb4 hv
      have h37 : f 37 = .string ⟨(lineL s ++ [10]).toArray⟩ := by
        have h : f 37 = .string (⟨dg.toArray⟩ ++ ⟨#[32]⟩ ++ s.name ++ ⟨#[32]⟩ ++ ⟨sh.toArray⟩ ++ ⟨#[10]⟩) := hv.2.2.2.2.2.2.2.2.2.2.1
        rw [h, HBY.out]
      have HB4 : Hid (Below w1.heap.size w1 w4) := HB2.out.trans (hb4.mono HB2.out.size)
      have HBD4 : Hid (Lib.IsBuilder 65 5 w1.heap.size w1.heap.size (Lib.byteCells (deckL (l.take k))) w4) := IsBuilder_later HBD2.out hb4
      clear hb4 hv HBD2 HB2 KS2 HIT HBY z1 z2 z3 z4 z5
      simp only [over, overL, h37, Nat.reduceAdd, List.drop_succ_cons, List.drop_zero]
      clear h37
      have HLN : Hid ((lineL s ++ [10]).length ≤ 301) := by have := HLSZ.out; show _ ≤ _; simp only [List.length_append, List.length_cons, List.length_nil]; omega
      clear HLSZ
      generalize lineL s ++ [10] = tx at *
      go_wp2_with fail
      refine Calls.mono (write_line w1.heap.size (deckL (l.take k)) tx w4 HBD4.out (by have := HLE.out; have := HLN.out; omega) HB4.out.size) ?_
      rintro e w5 ⟨n5, rfl, hbd5, hb5⟩
      have HB5 : Hid (Below w1.heap.size w1 w5) := HB4.out.trans hb5
      have HBD5 : Hid (Lib.IsBuilder 65 5 w1.heap.size w1.heap.size (Lib.byteCells (deckL (l.take (k + 1)))) w5) := by show Lib.IsBuilder _ _ _ _ _ _; rw [HSUC.out]; exact hbd5
      clear hbd5 hb5
      go_wp2_with fail
      refine HKK.out _ _ ?_
      go_wp2
      go_roundw
      case rel => exact ⟨k + 1, by omega, by go_num, HBD5.out, HB5.out⟩
      case measure => simp [intOf]; omega
    · have HE : Hid (l.take k = l) := by show _ = _; exact List.take_of_length_le (by omega)
      have HST : Hid (Calls Tryz.prog 26 #[.pointer (some ⟨w1.heap.size, 0, none⟩)] wr fun e w' => e = .returned (.string ⟨txt.toArray⟩) ∧ Below w1.heap.size wr w') := by
        have := HBD.out
        rw [HE.out, ← HTXT.out] at this
        exact Tryz.Builder_String_any w1.heap.size w1.heap.size txt wr this HB.out.size
      clear HBD
      go_wp2_with fail
      refine Calls.mono HST.out ?_
      rintro e w5 ⟨rfl, hb5⟩
      have HB5 : Hid (Below w.heap.size w w5) := HB1.out.trans ((HB.out.trans hb5).mono HB1.out.size)
      go_wp2
      refine bodyPost_ret (v := .tuple #[.string ⟨txt.toArray⟩, .int .i64 0]) (by simp [results, Tryz.results8, go_sem]) rfl ⟨rfl, HB5.out⟩

end Go.Proofs.YtmmpaaaifdikdaaGreatDoor
