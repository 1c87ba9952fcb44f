/- cutNumber, Script walked. -/
import Derived.Test.YtndkmjjaabnfaaaDoorLA
import Derived.Test.YtndkmjjaabnfaaaDoorLI
namespace Go.Proofs.YtndkmjjaabnfaaaDoor
open Go.RowKit Go.Shelf

theorem take_tw (l : List UInt8) : l.take (l.length - (l.dropWhile isDig).length) = l.takeWhile isDig := by
  have h := List.takeWhile_append_dropWhile (p := isDig) (l := l)
  have h1 := congrArg List.length h
  rw [List.length_append] at h1
  rw [show l.length - (l.dropWhile isDig).length = (l.takeWhile isDig).length by omega]
  have h2 : (l.takeWhile isDig ++ l.dropWhile isDig).take (l.takeWhile isDig).length = l.takeWhile isDig := List.take_left
  rw [h] at h2
  exact h2
theorem dw_le (l : List UInt8) : (l.dropWhile isDig).length ≤ l.length := by
  have h1 := congrArg List.length (List.takeWhile_append_dropWhile (p := isDig) (l := l))
  rw [List.length_append] at h1
  omega
set_option maxHeartbeats 3200000 in
theorem cutN (b : UInt8) (t : List UInt8) (w : World) (hv : Lib.indexByte [46, 120, 97] b = -1) (hl : t.length < 1000000000000) : Calls Tryd.prog 17 #[sA (b :: t)] w fun e w' => e = .returned (.tuple #[.int .i64 (turnN ((b :: t).takeWhile isDig)), sA ((b :: t).dropWhile isDig), .bool (turn ((b :: t).takeWhile isDig)).isSome]) ∧ Below w.heap.size w w' := by
  have HI : Hid (∀ W, Calls Tryd.prog 29 #[.string ⟨#[46, 120, 97]⟩, .int .u8 (((⟨(b :: t).toArray⟩ : ByteArray)[0]'(by simp [ByteArray.size])).toNat : Int)] W fun e w' => e = .returned (.int .i64 (-1)) ∧ w' = W) := fun W => by
    have h := idxB b W
    rw [hv] at h
    exact h
  have HD : Hid (∀ W, Calls Tryd.prog 28 #[sA (b :: t), .string ⟨#[48, 49, 50, 51, 52, 53, 54, 55, 56, 57]⟩] W fun e w' => e = .returned (sA ((b :: t).dropWhile isDig)) ∧ Below W.heap.size W w') := digitsB (b :: t)
  have hle := dw_le (b :: t)
  have HX : Hid (∀ n, n = (b :: t).length - ((b :: t).dropWhile isDig).length → (⟨(b :: t).toArray⟩ : ByteArray).extract 0 n = ⟨((b :: t).takeWhile isDig).toArray⟩) := fun n hn => by
    rw [ext_take, hn, take_tw]
  have hd := tw_digs (b :: t)
  have HT : Hid (∀ W, Calls Tryd.prog 30 #[sA ((b :: t).takeWhile isDig)] W fun e w' => e = .returned (.tuple #[.int .i64 (turnN ((b :: t).takeWhile isDig)), .bool (turn ((b :: t).takeWhile isDig)).isSome]) ∧ Below W.heap.size W w') := fun W => turnOf_any _ W hd (by
    have h1 := congrArg List.length (List.takeWhile_append_dropWhile (p := isDig) (l := b :: t))
    rw [List.length_append] at h1
    simp only [List.length_cons] at h1
    omega)
  clear hv hd
  generalize (b :: t).dropWhile isDig = R at *
  generalize turnN ((b :: t).takeWhile isDig) = n at *
  generalize (turn ((b :: t).takeWhile isDig)).isSome = ok at *
  generalize (b :: t).takeWhile isDig = d at *
  simp only [List.length_cons] at hle
  go_enter Tryd.func17, Tryd.ntmps17
  go_wp2_with fail
  refine (HI.out _).mono ?_
  rintro e w1 ⟨rfl, hw⟩
  subst hw
  go_wp2_with fail
  refine (HD.out _).mono ?_
  rintro e w2 ⟨rfl, hb⟩
  go_wp2_with fail
  rw [HX.out _ (by first | (simp; done) | (simp; omega) | omega)]
  refine (HT.out _).mono ?_
  rintro e w3 ⟨rfl, hb2⟩
  go_wp2
  refine bodyPost_ret (v := .tuple #[.int .i64 n, sA R, .bool ok]) (by simp [results, Tryd.results17, go_sem]) rfl ⟨rfl, hb.trans (hb2.mono hb.size)⟩
theorem cut_any (b : UInt8) (t : List UInt8) (w : World) (hl : t.length < 1000000000000) : Calls Tryd.prog 17 #[sA (b :: t)] w fun e w' => ∃ n r, e = .returned (.tuple #[.int .i64 n, sA r, .bool (tok (b :: t)).isSome]) ∧ Below w.heap.size w w' ∧ ∀ q, tok (b :: t) = some q → n = q.1 ∧ r = q.2 := by
  by_cases h1 : b = 46
  · refine (cut3 b t 0 w (by rw [h1]; exact idx46) (by omega) (by omega)).mono fun e w' ⟨he, hb⟩ => ⟨0, t, ?_, hb, ?_⟩
    · rw [he, tok_cons, if_pos h1]; rfl
    · intro q hq; rw [tok_cons, if_pos h1] at hq; obtain rfl := Option.some.inj hq; exact ⟨rfl, rfl⟩
  by_cases h2 : b = 120
  · refine (cut3 b t 1 w (by rw [h2]; exact idx120) (by omega) (by omega)).mono fun e w' ⟨he, hb⟩ => ⟨1, t, ?_, hb, ?_⟩
    · rw [he, tok_cons, if_neg h1, if_pos h2]; rfl
    · intro q hq; rw [tok_cons, if_neg h1, if_pos h2] at hq; obtain rfl := Option.some.inj hq; exact ⟨rfl, rfl⟩
  by_cases h3 : b = 97
  · refine (cut3 b t 2 w (by rw [h3]; exact idx97) (by omega) (by omega)).mono fun e w' ⟨he, hb⟩ => ⟨2, t, ?_, hb, ?_⟩
    · rw [he, tok_cons, if_neg h1, if_neg h2, if_pos h3]; rfl
    · intro q hq; rw [tok_cons, if_neg h1, if_neg h2, if_pos h3] at hq; obtain rfl := Option.some.inj hq; exact ⟨rfl, rfl⟩
  refine (cutN b t w (idx_no h1 h2 h3) hl).mono fun e w' ⟨he, hb⟩ => ⟨turnN ((b :: t).takeWhile isDig), (b :: t).dropWhile isDig, ?_, hb, ?_⟩
  · rw [he, tok_cons, if_neg h1, if_neg h2, if_neg h3]
    cases turn ((b :: t).takeWhile isDig) <;> rfl
  · intro q hq
    rw [tok_cons, if_neg h1, if_neg h2, if_neg h3] at hq
    cases hk : turn ((b :: t).takeWhile isDig) with
    | none => rw [hk] at hq; cases hq
    | some v =>
      rw [hk] at hq
      obtain rfl := Option.some.inj hq
      exact ⟨(turn_some _ v hk).symm, rfl⟩
theorem own_rd {w : World} {B : Nat} {v : Value} {l : List Int} (h : OwnR encI w B v l) : ∃ ao cap, v = .slice ao l.length cap ∧ RdI w ao l := by
  obtain ⟨ao, cap, e, hr⟩ := own_rdI h
  exact ⟨ao, cap, e, hr⟩
/-- The numbers that are kept so far: one too many at the most. -/
def kept (vs : List Int) : List Int := vs.take 2001
theorem kept_more {vs : List Int} {v : Int} (h : vs.length ≤ 2000) : kept (vs ++ [v]) = kept vs ++ [v] := by
  unfold kept
  rw [List.take_of_length_le (by simp; omega), List.take_of_length_le (by omega)]
theorem kept_full {vs : List Int} {v : Int} (h : 2000 < vs.length) : kept (vs ++ [v]) = kept vs := by
  unfold kept
  exact List.take_append_of_le_length (by omega)
theorem kept_len (vs : List Int) : (kept vs).length ≤ 2001 ∧ (2000 < (kept vs).length ↔ 2000 < vs.length) := by
  unfold kept
  rw [List.length_take]
  omega
theorem kept_all {vs : List Int} (h : ¬ 2000 < vs.length) : kept vs = vs := by
  unfold kept
  exact List.take_of_length_le (by omega)
/-- What Script keeps, at the head of its loop. -/
structure ScI (l : List UInt8) (w : World) (v left : Value) (wr : World) : Prop where
  it : ∃ (vs : List Int) (r : List UInt8), left = sA (skp r) ∧ (skp r).length ≤ l.length ∧ More l vs (skp r) ∧ OwnR encI wr w.heap.size v (kept vs)
  bel : Below w.heap.size w wr
set_option maxHeartbeats 6400000 in
set_option maxRecDepth 100000 in
theorem script_any (l : List UInt8) (w : World) (hl : l.length ≤ 1048576) : Calls Tryd.prog 6 #[sA l] w fun e w' => ∃ ao cap, e = .returned (.tuple #[.slice ao (scrL l).length cap, .int .i64 (scrE l)]) ∧ RdI w' ao (scrL l) ∧ Below w.heap.size w w' := by
  have HS : Hid (∀ (x : List UInt8) W, Calls Tryd.prog 16 #[sA x] W fun e w' => e = .returned (sA (skp x)) ∧ Below W.heap.size W w') := skip_any
  have HM0 : Hid (More l [] (skp l) ∧ (skp l).length ≤ l.length) := ⟨More.start l, skp_le l⟩
  have HL : Hid (l.length ≤ 1048576) := hl
  clear hl
  go_enter Tryd.func6, Tryd.ntmps6
  go_wp2_with fail
  refine (HS.out _ _).mono ?_
  rintro e w1 ⟨rfl, hb⟩
  have HB1 : Hid (Below w.heap.size w w1) := hb
  clear hb
  go_wp2_with fail
  go_loopw [4, 5] (fun v left wr => ScI l w v left wr) (fun _ left _ => (match left with | .string b => b.size | _ => 0))
  case atStart => exact ⟨⟨[], l, rfl, HM0.out.2, HM0.out.1, OwnR.nil _ _ _⟩, HB1.out⟩
  case round =>
    obtain ⟨⟨vs, r, hleft, hlen, hmore, hown⟩, hbel⟩ := hrel
    have HMo : Hid (More l vs (skp r)) := hmore
    have HO : Hid (OwnR encI wr w.heap.size _ (kept vs)) := hown
    have HBe : Hid (Below w.heap.size w wr) := hbel
    have HH : Hid (∀ b t, skp r = b :: t → b ≠ 32) := fun b t h => skp_head r h
    have HSr : Hid ((skp r).length ≤ l.length) := hlen
    subst hleft
    clear hmore hown hbel hlen
    generalize skp r = L at *
    obtain ⟨ao, cap, hv⟩ := HO.out.shape
    subst hv
    have hk := (kept_len vs).1
    cases L with
    | nil =>
      have HD : Hid (rd l = some vs) := HMo.out.done
      obtain ⟨ao2, cap2, he2, hr2⟩ := own_rd HO.out
      have HR : Hid (RdI wr ao (kept vs)) := by
        show RdI _ _ _
        simp only [Value.slice.injEq] at he2
        rw [he2.1]; exact hr2
      clear he2 hr2
      by_cases hbig : 2000 < vs.length
      · have HE : Hid (scrL l = [] ∧ scrE l = 8) := scr_long HD.out hbig
        have h2 : (2000 : Int) < ((kept vs).length : Int) := by have := (kept_len vs).2.2 hbig; omega
        go_wp2
        exact bodyPost_ret (v := .tuple #[.slice none 0 0, .int .i64 8]) (by simp [results, Tryd.results6, go_sem]) rfl ⟨none, 0, by rw [HE.out.1, HE.out.2]; rfl, .inl HE.out.1, HBe.out⟩
      · have HE : Hid (scrL l = vs ∧ scrE l = 0) := scr_ok HD.out hbig
        have h2 : ((kept vs).length : Int) ≤ 2000 := by have := mt (kept_len vs).2.1 hbig; omega
        have HK : Hid (kept vs = vs) := kept_all hbig
        go_wp2
        refine bodyPost_ret (v := .tuple #[.slice ao (kept vs).length cap, .int .i64 0]) (by simp [results, Tryd.results6, go_sem]) rfl ⟨ao, cap, by rw [HE.out.1, HE.out.2, HK.out], ?_, HBe.out⟩
        have := HR.out
        rw [HK.out] at this
        rw [HE.out.1]
        exact this
    | cons b t =>
      have hb32 := HH.out b t rfl
      have HCu : Hid (∀ W, Calls Tryd.prog 17 #[sA (b :: t)] W fun e w' => ∃ n r, e = .returned (.tuple #[.int .i64 n, sA r, .bool (tok (b :: t)).isSome]) ∧ Below W.heap.size W w' ∧ ∀ q, tok (b :: t) = some q → n = q.1 ∧ r = q.2) := fun W => cut_any b t W (by have h1 := HL.out; have h2 := HSr.out; simp only [List.length_cons] at h2; omega)
      have p1 : ((b :: t) == ([] : List UInt8)) = false := rfl
      go_wp2_with fail
      refine (HCu.out _).mono ?_
      rintro e w2 ⟨n, r2, rfl, hb2, hq⟩
      have HB2 : Hid (Below w.heap.size w w2) := HBe.out.trans (hb2.mono HBe.out.size)
      have HO2 : Hid (OwnR encI w2 w.heap.size (.slice ao (kept vs).length cap) (kept vs)) := HO.out.later hb2
      clear hb2 HO
      cases hk2 : tok (b :: t) with
      | none =>
        have HN : Hid (rd l = none) := HMo.out.bad hb32 hk2
        have HE : Hid (scrL l = [] ∧ scrE l = 1) := scr_none HN.out
        simp only [Option.isSome_none]
        go_wp2
        exact bodyPost_ret (v := .tuple #[.slice none 0 0, .int .i64 1]) (by simp [results, Tryd.results6, go_sem]) rfl ⟨none, 0, by rw [HE.out.1, HE.out.2]; rfl, .inl HE.out.1, HB2.out⟩
      | some q =>
        obtain ⟨v, r3⟩ := q
        obtain ⟨hn, hr⟩ := hq _ hk2
        simp only at hn hr
        subst hn hr
        have HMn : Hid (More l (vs ++ [n]) (skp r2)) := (HMo.out.next hb32 hk2).skip
        have HSh : Hid ((skp r2).length < (b :: t).length) := Nat.lt_of_le_of_lt (skp_le r2) (tok_shorter hk2)
        clear hk2 HMo HCu hq
        simp only [Option.isSome_some]
        by_cases hbig : 2000 < vs.length
        · have h2 : ¬ ((kept vs).length : Int) ≤ 2000 := by have := (kept_len vs).2.2 hbig; omega
          have HK : Hid (kept (vs ++ [n]) = kept vs) := kept_full hbig
          go_wp2_with fail
          refine (HS.out _ _).mono ?_
          rintro e w3 ⟨rfl, hb3⟩
          have HB3 : Hid (Below w.heap.size w w3) := HB2.out.trans (hb3.mono HB2.out.size)
          have HO3 : Hid (OwnR encI w3 w.heap.size (.slice ao (kept vs).length cap) (kept vs)) := HO2.out.later hb3
          go_wp2
          go_roundw
          case rel => exact ⟨⟨vs ++ [n], r2, rfl, Nat.le_trans (Nat.le_of_lt HSh.out) HSr.out, HMn.out, by rw [HK.out]; exact HO3.out⟩, HB3.out⟩
          case measure => have := HSh.out; simpa [ByteArray.size] using this
        · have h2 : ((kept vs).length : Int) ≤ 2000 := by have := mt (kept_len vs).2.1 hbig; omega
          have HK : Hid (kept (vs ++ [n]) = kept vs ++ [n]) := kept_more (by omega)
          have hz2 := HB2.out.size
          have HBB : Hid (Below w.heap.size w (w2.alloc (.cells #[.int .i64 n] 3))) := HB2.out.alloc hz2 _
          have HZ : Hid (w.heap.size ≤ (w2.alloc (.cells #[.int .i64 n] 3)).heap.size) := HBB.out.size
          have HLT : Hid ((kept vs).length + 1 ≤ 2002) := by show _ ≤ _; omega
          go_wp2_with (at_builtin; refine wpList_append_row goodI Tryd.underlying22 infoI rfl (by decide) (by decide) _ rfl (.tmp 26) (.tmp 28) rfl w.heap.size (.slice ao (kept vs).length cap) (kept vs) rfl (HO2.out.alloc _) w2.heap.size n rfl (fun j u hu => (Bk.new w2 [.int .i64 n] 3 w2.heap.size rfl).c j hu) (by omega) HZ.out ?_; intro v' w3 ho hg hloc)
          have HB3 : Hid (Below w.heap.size w w3) := below_row HBB.out (HO2.out.alloc _) hg HZ.out
          have HO3 : Hid (OwnR encI w3 w.heap.size v' (kept vs ++ [n])) := ho
          clear ho hg hloc HBB HZ HO2 HB2 hz2
          go_wp2_with fail
          refine (HS.out _ _).mono ?_
          rintro e w4 ⟨rfl, hb4⟩
          have HB4 : Hid (Below w.heap.size w w4) := HB3.out.trans (hb4.mono HB3.out.size)
          have HO4 : Hid (OwnR encI w4 w.heap.size v' (kept vs ++ [n])) := HO3.out.later hb4
          go_wp2
          go_roundw
          case rel => exact ⟨⟨vs ++ [n], r2, rfl, Nat.le_trans (Nat.le_of_lt HSh.out) HSr.out, HMn.out, by rw [HK.out]; exact HO4.out⟩, HB4.out⟩
          case measure => have := HSh.out; simpa [ByteArray.size] using this
end Go.Proofs.YtndkmjjaabnfaaaDoor
