/- The law DeckBack walked. -/
import Derived.Test.YtmmpaaaifdikdaaGreatDoorDR
namespace Go.Proofs.YtmmpaaaifdikdaaGreatDoor
open Go.RowKit Go.Shelf

theorem read_ne (l : List Sit) (hg : Good l) (hne : l ≠ []) (w : World) (hT : Tabs w) :
    Calls Tryz.prog 9 #[.string ⟨(deckL l).toArray⟩] w fun e w' => ∃ bx ox cap, e = .returned (.tuple #[.slice (some ⟨bx, ox, none⟩) l.length cap, .int .i64 0, .int .i64 0]) ∧ Sts w' (some ⟨bx, ox, none⟩) l ∧ Below w.heap.size w w' := by
  refine (deckRead_any l (dchk_zero.2 hg) (deckL l) (numbered 1 l) (numbered_map 1 l) (deck_lines 1 l fun s hs => ⟨(hg.each s hs).1, (hg.each s hs).2.1⟩) (by have := deckL_le hg; omega) w hT).mono ?_
  rintro e w' ⟨v, rfl, ⟨base, _, ho⟩, hb⟩
  obtain ⟨ao, cap, rfl, hs, _⟩ := ho.shape
  obtain ⟨bx, ox, rfl, _⟩ := hs.at (k := 0) (List.length_pos_iff.2 hne)
  exact ⟨bx, ox, cap, rfl, hs, hb⟩
theorem boxes_ne (ao : Option Addr) (cap : Nat) (l : List Sit) (w : World) (hL : Sts w ao l) (hcap : l.length ≤ cap) (hg : Good l) (hne : l ≠ []) :
    Calls Tryz.prog 14 #[.slice ao l.length cap] w fun e w' => ∃ bb ob cap', e = .returned (.tuple #[.slice (some ⟨bb, ob, none⟩) l.length cap', .int .i64 0]) ∧ S.Bxs w' (some ⟨bb, ob, none⟩) (l.map boxOf) ∧ l.length ≤ cap' ∧ Below w.heap.size w w' := by
  refine (boxes_ok ao cap l w hL hcap hg.ok (dchk_zero.2 hg)).mono ?_
  rintro e w' ⟨v, rfl, ho, hb⟩
  obtain ⟨ao', cap', rfl, hs, hc⟩ := ho.shape
  obtain ⟨bb, ob, rfl, _⟩ := hs.at (k := 0) (by rw [List.length_map]; exact List.length_pos_iff.2 hne)
  rw [List.length_map] at hc ⊢
  exact ⟨bb, ob, cap', rfl, hs, hc, hb⟩
def b15V (s : Sit) (vx vd : Value) (bx ox bd od k : Nat) (d : Nat) (v : Value) (_ : World) : Prop :=
  match d with
  | 112 => v = vx
  | 113 => v = .int .i64 k
  | 114 => v = .pointer (some ⟨bx, ox, none⟩)
  | 115 => v = sv s
  | 116 => v = vd
  | 117 => v = .int .i64 k
  | 118 => v = .pointer (some ⟨bd, od, none⟩)
  | 119 => v = sv s
  | 120 => v = .bool false
  | _ => True
theorem all_ne (a : Wr) (R C : Nat) (w : World) (hs : a.name.size ≤ maxLen) (h0 : chk a = 0) (hR : a.rows = R) (hC : a.cols = C) :
    Calls Tryz.prog 16 #[wv a] w fun e w' => ∃ gb cap, e = .returned (.tuple #[.slice (some ⟨gb, 0, none⟩) (C * R) cap, .int .i64 0]) ∧ (∀ j, j < C * R → w'.cell? ⟨gb, j * 2, none⟩ = some (.int .i64 ((j % R : Nat) : Int)) ∧ w'.cell? ⟨gb, j * 2 + 1, none⟩ = some (.int .i64 ((j / R : Nat) : Int))) ∧ Below w.heap.size w w' := by
  refine (all_ok a R C w hs h0 hR hC).mono ?_
  rintro e w' ⟨v, rfl, ho, hb⟩
  have hin := chk_inR h0
  have hq : 0 < C * R := Nat.mul_pos (by have := hin.c1; omega) (by have := hin.r1; omega)
  rcases ho.read with h | ⟨gb, cap, rfl, _, hc⟩
  · have := congrArg List.length h
    rw [spots_length] at this
    simp only [List.length_nil] at this
    omega
  · rw [spots_length]
    refine ⟨gb, cap, rfl, fun j hj => ?_, hb⟩
    have hj' : j < (spots R (C * R)).length := by rw [spots_length]; exact hj
    have e : (spots R (C * R))[j]'hj' = (j % R, j / R) := by
      have := spots_at (R := R) hj
      rw [List.getElem?_eq_getElem hj'] at this
      exact Option.some.inj this
    have := hc j hj'
    rw [e] at this
    exact this
def b20V (s : Sit) (vd vs : Value) (b o k q j gb : Nat) (g r c X Y Z : Int) (n : Nat) (d : Nat) (v : Value) (w : World) : Prop :=
  match d with
  | 138 => v = vd
  | 139 => v = vd
  | 140 => v = .int .i64 k
  | 141 => v = .pointer (some ⟨b, o, none⟩)
  | 142 => v = .pointer (some ⟨b, o, none⟩)
  | 143 => v = .int .i64 s.slot
  | 144 => v = vs
  | 145 => v = .int .i64 g
  | 146 => v = vs
  | 147 => v = .int .i64 q
  | 148 => v = .int .i64 j
  | 149 => v = .pointer (some ⟨gb, j * 2, none⟩)
  | 150 => v = .agg #[.int .i64 r, .int .i64 c]
  | 151 => v = ptv s.slot r c
  | 152 => v = .tuple #[ptv X Y Z, .int .i64 0]
  | 137 => v = .tuple #[ptv X Y Z, .int .i64 0]
  | 153 => v = ptv X Y Z
  | 154 => v = .int .i64 0
  | 19 => ∃ pb, v = ptr pb ∧ n ≤ pb ∧ T3 pb 0 0 0 w
  | _ => True
theorem b20V_mono (s : Sit) (vd vs : Value) (b o k q j gb : Nat) (g r c X Y Z : Int) (n : Nat) (d : Nat) (v : Value) (w w' : World) (h : b20V s vd vs b o k q j gb g r c X Y Z n d v w) (hb : Below w.heap.size w w') : b20V s vd vs b o k q j gb g r c X Y Z n d v w' := by
  unfold b20V at h ⊢
  split <;> simp only [] at h <;> first | exact h | (obtain ⟨pb, h1, h2, h3⟩ := h; exact ⟨pb, h1, h2, h3.later hb⟩)
def b21V (B : S.Bx) (vb : Value) (X Y Z : Int) (pb bb ob k : Nat) (d : Nat) (v : Value) (_ : World) : Prop :=
  match d with
  | 155 => v = .int .i64 0
  | 156 => v = .bool false
  | 157 => v = .bool false
  | 158 => v = .pointer (some ⟨pb, 0, none⟩)
  | 159 => v = .int .i64 X
  | 160 => v = vb
  | 161 => v = .int .i64 (k : Int)
  | 162 => v = .pointer (some ⟨bb, ob + k * 6, none⟩)
  | 163 => v = .pointer (some ⟨bb, ob + k * 6, none⟩)
  | 164 => v = .pointer (some ⟨bb, ob + k * 6, none⟩)
  | 165 => v = .int .i64 B.lx
  | 166 => v = .bool false
  | 167 => v = .bool false
  | 168 => v = .bool false
  | 169 => v = .pointer (some ⟨pb, 0, none⟩)
  | 170 => v = .int .i64 X
  | 171 => v = vb
  | 172 => v = .int .i64 (k : Int)
  | 173 => v = .pointer (some ⟨bb, ob + k * 6, none⟩)
  | 174 => v = .pointer (some ⟨bb, ob + k * 6 + 3, none⟩)
  | 175 => v = .pointer (some ⟨bb, ob + k * 6 + 3, none⟩)
  | 176 => v = .int .i64 B.hx
  | 177 => v = .bool false
  | 178 => v = .bool false
  | 179 => v = .bool false
  | 180 => v = .pointer (some ⟨pb, 1, none⟩)
  | 181 => v = .int .i64 Y
  | 182 => v = vb
  | 183 => v = .int .i64 (k : Int)
  | 184 => v = .pointer (some ⟨bb, ob + k * 6, none⟩)
  | 185 => v = .pointer (some ⟨bb, ob + k * 6, none⟩)
  | 186 => v = .pointer (some ⟨bb, ob + k * 6 + 1, none⟩)
  | 187 => v = .int .i64 B.ly
  | 188 => v = .bool false
  | 189 => v = .bool false
  | 190 => v = .bool false
  | 191 => v = .pointer (some ⟨pb, 1, none⟩)
  | 192 => v = .int .i64 Y
  | 193 => v = vb
  | 194 => v = .int .i64 (k : Int)
  | 195 => v = .pointer (some ⟨bb, ob + k * 6, none⟩)
  | 196 => v = .pointer (some ⟨bb, ob + k * 6 + 3, none⟩)
  | 197 => v = .pointer (some ⟨bb, ob + k * 6 + 4, none⟩)
  | 198 => v = .int .i64 B.hy
  | 199 => v = .bool false
  | 200 => v = .bool false
  | 201 => v = .bool false
  | 202 => v = .pointer (some ⟨pb, 2, none⟩)
  | 203 => v = .int .i64 Z
  | 204 => v = vb
  | 205 => v = .int .i64 (k : Int)
  | 206 => v = .pointer (some ⟨bb, ob + k * 6, none⟩)
  | 207 => v = .pointer (some ⟨bb, ob + k * 6, none⟩)
  | 208 => v = .pointer (some ⟨bb, ob + k * 6 + 2, none⟩)
  | 209 => v = .int .i64 B.lz
  | 210 => v = .bool false
  | 211 => v = .bool false
  | 212 => v = .bool false
  | 213 => v = .pointer (some ⟨pb, 2, none⟩)
  | 214 => v = .int .i64 Z
  | 215 => v = vb
  | 216 => v = .int .i64 (k : Int)
  | 217 => v = .pointer (some ⟨bb, ob + k * 6, none⟩)
  | 218 => v = .pointer (some ⟨bb, ob + k * 6 + 3, none⟩)
  | 219 => v = .pointer (some ⟨bb, ob + k * 6 + 5, none⟩)
  | 220 => v = .int .i64 B.hz
  | 221 => v = .bool false
  | 222 => v = .bool false
  | _ => True
theorem cut_with {P : Program} {Q : Exit → Act → World → Prop} {id : Nat} {ops : Array Oper} {a : Act} {w : World} (T : Act → Prop) (h1 : Hid (T a) → (Code.region id ops true).wp P Q a w) (h2 : T a) : (Code.region id ops true).wp P Q a w := h1 h2
theorem T3.put {b : Nat} {x y z : Int} {w : World} (h : T3 b x y z w) (X Y Z : Int) : T3 b X Y Z (put3 w b X Y Z) := by
  obtain ⟨lt, c0, c1, c2, f0, f1, f2⟩ := h
  exact ⟨by simpa [World.setCell] using lt, by go_simp, by go_simp, by go_simp, by go_simp, by go_simp, by go_simp⟩
set_option maxHeartbeats 12800000 in
set_option maxRecDepth 100000 in
theorem deckBack_ok (b off cap : Nat) (l : List Sit) (g : Int) (w : World) (hT : Tabs w) (hL : Sts w (some ⟨b, off, none⟩) l) (hcap : l.length ≤ cap) (hg : Good l) (hne : l ≠ []) (hg0 : -9223372036854775808 ≤ g) (hg1 : g ≤ 9223372036854775807) :
    Calls Tryz.prog 4 #[.slice (some ⟨b, off, none⟩) l.length cap, .int .i64 g] w fun e w' => e = .returned (.bool true) ∧ Below w.heap.size w w' := by
  have HT : Hid (Tabs w) := hT
  have HL : Hid (Sts w (some ⟨b, off, none⟩) l) := hL
  have HG : Hid (Good l) := hg
  have HSH : Hid (∀ W : World, Below w.heap.size w W → Calls Tryz.prog 8 #[.slice (some ⟨b, off, none⟩) l.length cap] W fun e w' => e = .returned (.tuple #[.string ⟨(deckL l).toArray⟩, .int .i64 0]) ∧ Below W.heap.size W w') := fun W hW => deckShow_ok _ cap l W (hT.next hW) (hL.next hW) hcap hg
  have HST : Hid (Calls Tryz.prog 9 #[.string ⟨(conL ++ [10]).toArray⟩] w fun e w' => ∃ b1 off1 cap1, e = .returned (.tuple #[.slice (some ⟨b1, off1, none⟩) 1 cap1, .int .i64 0, .int .i64 0]) ∧ w'.cell? ⟨b1, off1, none⟩ = some (.int .i64 2) ∧ Below w.heap.size w w') := deckBack_start w hT
  have HRD : Hid (∀ W : World, Below w.heap.size w W → Calls Tryz.prog 9 #[.string ⟨(deckL l).toArray⟩] W fun e w' => ∃ bx ox cap, e = .returned (.tuple #[.slice (some ⟨bx, ox, none⟩) l.length cap, .int .i64 0, .int .i64 0]) ∧ Sts w' (some ⟨bx, ox, none⟩) l ∧ Below W.heap.size W w') := fun W hW => read_ne l hg hne W (hT.next hW)
  have HBX : Hid (∀ W : World, Below w.heap.size w W → Calls Tryz.prog 14 #[.slice (some ⟨b, off, none⟩) l.length cap] W fun e w' => ∃ bb ob cap', e = .returned (.tuple #[.slice (some ⟨bb, ob, none⟩) l.length cap', .int .i64 0]) ∧ S.Bxs w' (some ⟨bb, ob, none⟩) (l.map boxOf) ∧ l.length ≤ cap' ∧ Below W.heap.size W w') := fun W hW => boxes_ne _ cap l W (hL.next hW) hcap hg hne
  have HAP : Hid (∀ (bb ob cap' : Nat) (W : World), S.Bxs W (some ⟨bb, ob, none⟩) (l.map boxOf) → l.length ≤ cap' → Calls Tryz.prog 15 #[.slice (some ⟨bb, ob, none⟩) l.length cap'] W fun e w' => e = .returned (.tuple #[.int .i64 (-1), .int .i64 (-1), .int .i64 0]) ∧ Below W.heap.size W w') := fun bb ob cap' W hB hc => S.apart_is _ cap' l W hB hc hg
  have hn12 := hg.len
  clear hT hL hg hne
  generalize deckL l = tx at *
  generalize hnnq : l.length = nn at *
  have HNN : Hid (l.length = nn) := hnnq
  clear hnnq
  go_enter Tryz.func4, Tryz.ntmps4
  go_wp2_with fail
  rw [con_arr2]
  refine Calls.mono HST.out ?_
  rintro e w1 ⟨b1, off1, cap1, rfl, c1, hb1⟩
  have HB1 : Hid (Below w.heap.size w w1) := hb1
  clear hb1 HST
  go_wp2_with fail
  refine Calls.mono (HSH.out w1 HB1.out) ?_
  rintro e w2 ⟨rfl, hb2⟩
  have HB2 : Hid (Below w.heap.size w w2) := HB1.out.trans (hb2.mono HB1.out.size)
  clear hb2 c1 HSH
  go_wp2_with fail
  refine Calls.mono (HRD.out w2 HB2.out) ?_
  rintro e w3 ⟨bx, ox, capx, rfl, hs3, hb3⟩
  have HB3 : Hid (Below w.heap.size w w3) := HB2.out.trans (hb3.mono HB2.out.size)
  have HX3 : Hid (Sts w3 (some ⟨bx, ox, none⟩) l) := hs3
  clear hb3 hs3 HRD HB2
  go_wp2_with fail
  refine Calls.mono (HBX.out w3 HB3.out) ?_
  rintro e w4 ⟨bb, ob, capb, rfl, hs4, hc4, hb4⟩
  have HB4 : Hid (Below w.heap.size w w4) := HB3.out.trans (hb4.mono HB3.out.size)
  have HX4 : Hid (Sts w4 (some ⟨bx, ox, none⟩) l) := HX3.out.next hb4
  have HBB4 : Hid (S.Bxs w4 (some ⟨bb, ob, none⟩) (l.map boxOf)) := hs4
  clear hb4 hs4 HBX HB3 HX3
  go_wp2_with fail
  refine Calls.mono (HAP.out bb ob capb w4 HBB4.out hc4) ?_
  rintro e w5 ⟨rfl, hb5⟩
  have HB5 : Hid (Below w.heap.size w w5) := HB4.out.trans (hb5.mono HB4.out.size)
  have HX5 : Hid (Sts w5 (some ⟨bx, ox, none⟩) l) := HX4.out.next hb5
  have HBB5 : Hid (S.Bxs w5 (some ⟨bb, ob, none⟩) (l.map boxOf)) := HBB4.out.next hb5
  have HD5 : Hid (Sts w5 (some ⟨b, off, none⟩) l) := HL.out.next HB5.out
  clear hb5 HAP HB4 HX4 HBB4
  go_wp2_with fail
  go_loopw [16] (fun i wr => ∃ k : Nat, k ≤ nn ∧ i = .int .i64 k ∧ Below w5.heap.size w5 wr) (fun i _ => nn - (intOf i).toNat)
  case atStart => exact ⟨0, Nat.zero_le _, rfl, Below.refl _ _⟩
  case round =>
    obtain ⟨k, hk, rfl, hb⟩ := hrel
    have HB : Hid (Below w5.heap.size w5 wr) := hb
    clear hb
    by_cases hlt : k < nn
    rotate_left
    · go_wp2
      go_ret
      exact ⟨rfl, HB5.out.trans (HB.out.mono HB5.out.size)⟩
    have hkl : k < l.length := by rw [HNN.out]; exact hlt
    obtain ⟨s, hs⟩ : ∃ s, s = l[k]'hkl := ⟨_, rfl⟩
    have HCX : Hid (∀ W : World, Below w5.heap.size w5 W → StAt W bx (ox + k * 14) s) := fun W hW => by
      obtain ⟨b', o', e, h⟩ := (HX5.out.next hW).at hkl
      simp only [Option.some.injEq, Addr.mk.injEq, and_true] at e
      obtain ⟨rfl, rfl⟩ := e
      rw [hs]; exact h
    have HCD : Hid (∀ W : World, Below w5.heap.size w5 W → StAt W b (off + k * 14) s) := fun W hW => by
      obtain ⟨b', o', e, h⟩ := (HD5.out.next hW).at hkl
      simp only [Option.some.injEq, Addr.mk.injEq, and_true] at e
      obtain ⟨rfl, rfl⟩ := e
      rw [hs]; exact h
    have HCB : Hid (∀ W : World, Below w5.heap.size w5 W → S.BxAt W bb (ob + k * 6) (boxOf s)) := fun W hW => by
      obtain ⟨b', o', e, h⟩ := (HBB5.out.next hW).at (k := k) (by rw [List.length_map]; exact hkl)
      simp only [Option.some.injEq, Addr.mk.injEq, and_true] at e
      obtain ⟨rfl, rfl⟩ := e
      rw [List.getElem_map] at h
      rw [hs]; exact h
    have HSM : Hid (s ∈ l) := by show _ ∈ _; rw [hs]; exact List.getElem_mem hkl
    clear hs hkl
    have hki : (k : Int) < (nn : Int) := by omega
    go_wp2_with fail
    rename_i KK hkk
    have HKK := (show Hid _ from hkk)
    clear hkk
    try rw [show decide ((k : Int) < (nn : Int)) = true by simp; omega]
    refine region_inv [false, false, false, false, false, false, false, false, false, false, false, false, false, false, false, false, false, false, false, false, false, false, false, false, false, false, false, false, false, false, false, false, false, false, false, false, false, false, false, false, false, false, false, false, false, false, false, false, false, false, false, false, false, false, false, false, false, false, false, false, false, false, false, false, false, false, false, false, false, false, false, false, false, false, false, false, false, false, false, false, false, false, false, false, false, false, false, false, false, false, false, false, false, false, false, false, false, false, false, false, false, false, false, false, false, false, false, false, false, false, false, false, true, true, true, true, true, true, true, true, true, false, false, false, false, false, false, false, false, false, false, false, false, false, false, false, false, false, false, false, false, false, false, false, false, false, false, false, false, false, false, false, false, false, false, false, false, false, false, false, false, false, false, false, false, false, false, false, false, false, false, false, false, false, false, false, false, false, false, false, false, false, false, false, false, false, false, false, false, false, false, false, false, false, false, false, false, false, false, false, false, false, false, false, false, false, false, false, false, false, false, false, false, false, false, false, false, false, false, false, false, false, false]
      [(112, [], none), (113, [], none), (114, [112, 113], none), (115, [114], none), (116, [], none), (117, [], none), (118, [116, 117], none), (119, [118], none), (120, [115, 119], none)]
      (b15V s (.slice (some ⟨bx, ox, none⟩) nn capx) (.slice (some ⟨b, off, none⟩) nn cap) bx (ox + k * 14) b (off + k * 14) k) (by kernel_rfl) (by kernel_rfl) (fun _ _ _ _ h _ => h) ?_ ?_
    · refine ⟨?_, ?_, ?_, ?_, ?_, ?_, ?_, ?_, ?_, trivial⟩
      · intro f wz hb _ K hK
        simp only [over, overL, Nat.reduceAdd]
        go_simp
        exact hK _ _ ⟨_, rfl, by simp only [over, overL, Nat.reduceAdd]; rfl, Below.refl _ _⟩
      · intro f wz hb _ K hK
        simp only [over, overL, Nat.reduceAdd]
        go_simp
        exact hK _ _ ⟨_, rfl, by simp only [over, overL, Nat.reduceAdd]; rfl, Below.refl _ _⟩
      · intro f wz hb ⟨h112, h113, _⟩ K hK
        have h112 : f 112 = _ := h112
        have h113 : f 113 = _ := h113
        simp only [over, overL, Nat.reduceAdd, h112, h113]
        go_simp
        exact hK _ _ ⟨_, rfl, by simp only [over, overL, Nat.reduceAdd, h112, h113]; rfl, Below.refl _ _⟩
      · intro f wz hb ⟨h114, _⟩ K hK
        have h114 : f 114 = _ := h114
        obtain ⟨_, a0, a1, a2, a3, a4, a5, a6, a7, a8, a9, a10, a11, a12, a13⟩ := HCX.out wz (HB.out.trans (hb.mono HB.out.size))
        simp only [over, overL, Nat.reduceAdd, h114]
        go_simp
        exact hK _ _ ⟨_, rfl, by simp only [over, overL, Nat.reduceAdd, h114]; rfl, Below.refl _ _⟩
      · intro f wz hb _ K hK
        simp only [over, overL, Nat.reduceAdd]
        go_simp
        exact hK _ _ ⟨_, rfl, by simp only [over, overL, Nat.reduceAdd]; rfl, Below.refl _ _⟩
      · intro f wz hb _ K hK
        simp only [over, overL, Nat.reduceAdd]
        go_simp
        exact hK _ _ ⟨_, rfl, by simp only [over, overL, Nat.reduceAdd]; rfl, Below.refl _ _⟩
      · intro f wz hb ⟨h116, h117, _⟩ K hK
        have h116 : f 116 = _ := h116
        have h117 : f 117 = _ := h117
        simp only [over, overL, Nat.reduceAdd, h116, h117]
        go_simp
        exact hK _ _ ⟨_, rfl, by simp only [over, overL, Nat.reduceAdd, h116, h117]; rfl, Below.refl _ _⟩
      · intro f wz hb ⟨h118, _⟩ K hK
        have h118 : f 118 = _ := h118
        obtain ⟨_, a0, a1, a2, a3, a4, a5, a6, a7, a8, a9, a10, a11, a12, a13⟩ := HCD.out wz (HB.out.trans (hb.mono HB.out.size))
        simp only [over, overL, Nat.reduceAdd, h118]
        go_simp
        exact hK _ _ ⟨_, rfl, by simp only [over, overL, Nat.reduceAdd, h118]; rfl, Below.refl _ _⟩
      · intro f wz hb ⟨h115, h119, _⟩ K hK
        have h115 : f 115 = _ := h115
        have h119 : f 119 = _ := h119
        simp only [over, overL, Nat.reduceAdd, h115, h119]
        go_simp
        exact hK _ _ ⟨_, rfl, by simp only [over, overL, Nat.reduceAdd, h115, h119]; rfl, Below.refl _ _⟩
    intro f w6 hb6 hv
    have h120 : f 120 = .bool false := hv.2.2.2.2.2.2.2.2.1
    have HB6 : Hid (Below w5.heap.size w5 w6) := HB.out.trans (hb6.mono HB.out.size)
    clear hb6 hv HB
    simp only [over, overL, h120, Nat.reduceAdd]
    clear h120
    refine HKK.out _ _ ?_
    clear HKK HCX
    obtain ⟨_, d0, d1, d2, d3, d4, d5, d6, d7, d8, d9, d10, d11, d12, d13⟩ := HCD.out w6 HB6.out
    go_wp2_with fail
    obtain ⟨e1, e2, _, _⟩ := HG.out.each s HSM.out
    have HPL : Hid (plc s = 0 ∧ chk s.ware = 0) := ⟨e1, e2⟩
    have hin := chk_inR e2
    obtain ⟨R, hR⟩ : ∃ R : Nat, s.ware.rows = R := ⟨s.ware.rows.toNat, by have := hin.r1; omega⟩
    obtain ⟨C, hC⟩ : ∃ C : Nat, s.ware.cols = C := ⟨s.ware.cols.toNat, by have := hin.c1; omega⟩
    have hq1 : 0 < C * R := Nat.mul_pos (by have := hin.c1; omega) (by have := hin.r1; omega)
    have hq2 : C * R ≤ 384 := Nat.le_trans (Nat.mul_le_mul (show C ≤ 24 by have := hin.c2; omega) (show R ≤ 16 by have := hin.r2; omega)) (by decide)
    have HALL := (show Hid _ from all_ne s.ware R C w6 (SOk_good e1 e2).1 e2 hR hC)
    have HALL : Hid (Calls Tryz.prog 16 #[wv s.ware] w6 fun e w' => ∃ gb cap, e = .returned (.tuple #[.slice (some ⟨gb, 0, none⟩) (C * R) cap, .int .i64 0]) ∧ (∀ j, j < C * R → w'.cell? ⟨gb, j * 2, none⟩ = some (.int .i64 ((j % R : Nat) : Int)) ∧ w'.cell? ⟨gb, j * 2 + 1, none⟩ = some (.int .i64 ((j / R : Nat) : Int))) ∧ Below w6.heap.size w6 w') := all_ne s.ware R C w6 (SOk_good e1 e2).1 e2 hR hC
    have HPK : Hid (pk g (C * R : Nat) < C * R) := by have := pk_lt (n := g) (m := ((C * R : Nat) : Int)) (by omega); show _ < _; omega
    have HPI : Hid (∀ W : World, Calls Tryz.prog 18 #[.int .i64 g, .int .i64 ((C * R : Nat) : Int)] W fun e w' => e = .returned (.int .i64 ((pk g (C * R : Nat) : Nat) : Int)) ∧ w' = W) := fun W => picked_is g _ W hg0 hg1 (by omega) (by omega)
    have hsp : spotOk ((pk g (C * R : Nat) % R : Nat) : Int) ((pk g (C * R : Nat) / R : Nat) : Int) s.ware.rows s.ware.cols = true := by rw [hR, hC]; exact spot_in HPK.out
    obtain ⟨jj, hj, ej, hfst⟩ := HG.out.first HSM.out
    have HAT : Hid (∀ W : World, Below w5.heap.size w5 W → Calls Tryz.prog 17 #[.slice (some ⟨b, off, none⟩) nn cap, ptv s.slot ((pk g (C * R : Nat) % R : Nat) : Int) ((pk g (C * R : Nat) / R : Nat) : Int)] W fun e w' => e = .returned (.tuple #[ptv (cx s.slot + (s.ware.x + ((pk g (C * R : Nat) / R : Nat) : Int) * s.ware.pitch)) (cy s.slot + (s.ware.y + ((pk g (C * R : Nat) % R : Nat) : Int) * s.ware.pitch)) (0 + (s.ware.hei - s.ware.deep)), .int .i64 0]) ∧ Below W.heap.size W w') := fun W hW => by
      have := at_ok (some ⟨b, off, none⟩) cap l s.slot ((pk g (C * R : Nat) % R : Nat) : Int) ((pk g (C * R : Nat) / R : Nat) : Int) W (HD5.out.next hW) (by rw [HNN.out]; exact hcap) (by rw [HNN.out]; omega) HG.out.ok (dchk_zero.2 HG.out) jj hj s ej rfl hfst hsp
      rw [HNN.out] at this
      exact this
    have HWI := (show Hid _ from well_in e2 hsp)
    have HWI : Hid ((boxOf s).lx ≤ cx s.slot + (s.ware.x + ((pk g (C * R : Nat) / R : Nat) : Int) * s.ware.pitch) ∧ cx s.slot + (s.ware.x + ((pk g (C * R : Nat) / R : Nat) : Int) * s.ware.pitch) ≤ (boxOf s).hx ∧ (boxOf s).ly ≤ cy s.slot + (s.ware.y + ((pk g (C * R : Nat) % R : Nat) : Int) * s.ware.pitch) ∧ cy s.slot + (s.ware.y + ((pk g (C * R : Nat) % R : Nat) : Int) * s.ware.pitch) ≤ (boxOf s).hy ∧ (boxOf s).lz ≤ 0 + (s.ware.hei - s.ware.deep) ∧ 0 + (s.ware.hei - s.ware.deep) ≤ (boxOf s).hz) := well_in e2 hsp
    clear hsp hfst ej hj jj hin e1 e2 hR hC
    refine Calls.mono HALL.out ?_
    rintro e w7 ⟨gb, capg, rfl, hcg, hb7⟩
    obtain ⟨g0, g1⟩ := hcg _ HPK.out
    have hb67 := hb7
    clear hcg HALL
    generalize ((pk g (C * R : Nat) % R : Nat) : Int) = r at *
    generalize ((pk g (C * R : Nat) / R : Nat) : Int) = c at *
    generalize pk g (C * R : Nat) = j at *
    generalize C * R = q at *
    generalize cx s.slot + (s.ware.x + c * s.ware.pitch) = X at *
    generalize cy s.slot + (s.ware.y + r * s.ware.pitch) = Y at *
    generalize 0 + (s.ware.hei - s.ware.deep) = Z at *
    have HB7 : Hid (Below w5.heap.size w5 w7) := HB6.out.trans (hb7.mono HB6.out.size)
    have hjq : (j : Int) < (q : Int) := by have := HPK.out; omega
    have hq0 : ((q : Int) == 0) = false := by simp; omega
    have G0 : Hid (w7.cell? ⟨gb, j * 2, none⟩ = some (.int .i64 r)) := g0
    have G1 : Hid (w7.cell? ⟨gb, j * 2 + 1, none⟩ = some (.int .i64 c)) := g1
    clear g0 g1 hb7 hb67 HB6 d0 d1 d2 d3 d4 d5 d6 d7 d8 d9 d10 d11 d12 d13
    go_wp2_with fail
    rename_i KK hkk
    have HKK := (show Hid _ from hkk)
    clear hkk
    obtain ⟨M, hM⟩ : ∃ M : List Bool, M = [false, false, false, false, false, false, false, false, false, false, false, false, false, false, false, false, false, false, false, true, false, false, false, false, false, false, false, false, false, false, false, false, false, false, false, false, false, false, false, false, false, false, false, false, false, false, false, false, false, false, false, false, false, false, false, false, false, false, false, false, false, false, false, false, false, false, false, false, false, false, false, false, false, false, false, false, false, false, false, false, false, false, false, false, false, false, false, false, false, false, false, false, false, false, false, false, false, false, false, false, false, false, false, false, false, false, false, false, false, false, false, false, false, false, false, false, false, false, false, false, false, false, false, false, false, false, false, false, false, false, false, false, false, false, false, false, false, true, true, true, true, true, true, true, true, true, true, true, true, true, true, true, true, true, true, false, false, false, false, false, false, false, false, false, false, false, false, false, false, false, false, false, false, false, false, false, false, false, false, false, false, false, false, false, false, false, false, false, false, false, false, false, false, false, false, false, false, false, false, false, false, false, false, false, false, false, false, false, false, false, false, false, false, false, false, false, false, false, false, false, false, false, false] := ⟨_, rfl⟩
    refine cut_with (fun fr => ∀ (f : Nat → Value) (v : World) (pb : Nat), Below w7.heap.size w7 v → w7.heap.size ≤ pb → T3 pb X Y Z v → f 138 = .slice (some ⟨b, off, none⟩) nn cap → f 139 = .slice (some ⟨b, off, none⟩) nn cap → f 140 = .int .i64 (k : Int) → f 141 = .pointer (some ⟨b, off + k * 14, none⟩) → f 142 = .pointer (some ⟨b, off + k * 14, none⟩) → f 143 = .int .i64 s.slot → f 144 = .slice (some ⟨gb, 0, none⟩) q capg → f 145 = .int .i64 g → f 146 = .slice (some ⟨gb, 0, none⟩) q capg → f 147 = .int .i64 (q : Int) → f 148 = .int .i64 (j : Int) → f 149 = .pointer (some ⟨gb, j * 2, none⟩) → f 150 = .agg #[.int .i64 r, .int .i64 c] → f 151 = ptv s.slot r c → f 152 = .tuple #[ptv X Y Z, .int .i64 0] → f 137 = .tuple #[ptv X Y Z, .int .i64 0] → f 153 = ptv X Y Z → f 154 = .int .i64 0 → f 19 = ptr pb → KK ((over fr M f).put (some 20) (.int .i64 0)) v) ?_ ?_
    · intro HTL
      clear HKK
      refine region_seqL 19 17 [false, false, false, false, false, false, false, false, false, false, false, false, false, false, false, false, false, false, false, true, false, false, false, false, false, false, false, false, false, false, false, false, false, false, false, false, false, false, false, false, false, false, false, false, false, false, false, false, false, false, false, false, false, false, false, false, false, false, false, false, false, false, false, false, false, false, false, false, false, false, false, false, false, false, false, false, false, false, false, false, false, false, false, false, false, false, false, false, false, false, false, false, false, false, false, false, false, false, false, false, false, false, false, false, false, false, false, false, false, false, false, false, false, false, false, false, false, false, false, false, false, false, false, false, false, false, false, false, false, false, false, false, false, false, false, false, false, true, true, true, true, true, true, true, true, true, true, true, true, true, true, true, true, true, true, false, false, false, false, false, false, false, false, false, false, false, false, false, false, false, false, false, false, false, false, false, false, false, false, false, false, false, false, false, false, false, false, false, false, false, false, false, false, false, false, false, false, false, false, false, false, false, false, false, false, false, false, false, false, false, false, false, false, false, false, false, false, false, false, false, false, false, false]
        [(138, [], none), (139, [], none), (140, [], none), (141, [139, 140], none), (142, [141], none), (143, [142], none), (144, [], none), (145, [], none), (146, [], none), (147, [146], none), (148, [145, 147], none), (149, [144, 148], none), (150, [149], none), (151, [143, 150], none), (152, [138, 151], none), (137, [152], none), (153, [137], none), (154, [137], none), (19, [], none)]
        (b20V s (.slice (some ⟨b, off, none⟩) nn cap) (.slice (some ⟨gb, 0, none⟩) q capg) b (off + k * 14) k q j gb g r c X Y Z w7.heap.size) (by kernel_rfl) (by kernel_rfl) (by kernel_rfl) (by kernel_rfl) (by kernel_rfl) (by decide) (by decide) (b20V_mono s (.slice (some ⟨b, off, none⟩) nn cap) (.slice (some ⟨gb, 0, none⟩) q capg) b (off + k * 14) k q j gb g r c X Y Z w7.heap.size) ?_ ?_ ?_
      · refine ⟨?_, ?_, ?_, ?_, ?_, ?_, ?_, ?_, ?_, ?_, ?_, ?_, ?_, ?_, ?_, ?_, ?_, ?_, ?_, trivial⟩
        · intro f wz hb _ K hK
          simp only [over, overL, Nat.reduceAdd]
          go_simp
          exact hK _ _ ⟨_, rfl, by simp only [over, overL, Nat.reduceAdd]; rfl, Below.refl _ _⟩
        · intro f wz hb _ K hK
          simp only [over, overL, Nat.reduceAdd]
          go_simp
          exact hK _ _ ⟨_, rfl, by simp only [over, overL, Nat.reduceAdd]; rfl, Below.refl _ _⟩
        · intro f wz hb _ K hK
          simp only [over, overL, Nat.reduceAdd]
          go_simp
          exact hK _ _ ⟨_, rfl, by simp only [over, overL, Nat.reduceAdd]; rfl, Below.refl _ _⟩
        · intro f wz hb ⟨h139, h140, _⟩ K hK
          have h139 : f 139 = _ := h139
          have h140 : f 140 = _ := h140
          simp only [over, overL, Nat.reduceAdd, h139, h140]
          go_simp
          exact hK _ _ ⟨_, rfl, by simp only [over, overL, Nat.reduceAdd, h139, h140]; rfl, Below.refl _ _⟩
        · intro f wz hb ⟨h141, _⟩ K hK
          have h141 : f 141 = _ := h141
          simp only [over, overL, Nat.reduceAdd, h141]
          go_simp
          exact hK _ _ ⟨_, rfl, by simp only [over, overL, Nat.reduceAdd, h141]; rfl, Below.refl _ _⟩
        · intro f wz hb ⟨h142, _⟩ K hK
          have h142 : f 142 = _ := h142
          have c0 := (HCD.out wz (HB7.out.trans (hb.mono HB7.out.size))).c0
          simp only [over, overL, Nat.reduceAdd, h142]
          go_simp
          exact hK _ _ ⟨_, rfl, by simp only [over, overL, Nat.reduceAdd, h142]; rfl, Below.refl _ _⟩
        · intro f wz hb _ K hK
          simp only [over, overL, Nat.reduceAdd]
          go_simp
          exact hK _ _ ⟨_, rfl, by simp only [over, overL, Nat.reduceAdd]; rfl, Below.refl _ _⟩
        · intro f wz hb _ K hK
          simp only [over, overL, Nat.reduceAdd]
          go_simp
          exact hK _ _ ⟨_, rfl, by simp only [over, overL, Nat.reduceAdd]; rfl, Below.refl _ _⟩
        · intro f wz hb _ K hK
          simp only [over, overL, Nat.reduceAdd]
          go_simp
          exact hK _ _ ⟨_, rfl, by simp only [over, overL, Nat.reduceAdd]; rfl, Below.refl _ _⟩
        · intro f wz hb ⟨h146, _⟩ K hK
          have h146 : f 146 = _ := h146
          simp only [over, overL, Nat.reduceAdd, h146]
          go_simp
          exact hK _ _ ⟨_, rfl, by simp only [over, overL, Nat.reduceAdd, h146]; rfl, Below.refl _ _⟩
        · intro f wz hb ⟨h145, h147, _⟩ K hK
          have h145 : f 145 = _ := h145
          have h147 : f 147 = _ := h147
          simp only [over, overL, Nat.reduceAdd, h145, h147]
          go_simp
          refine Calls.mono (HPI.out _) ?_
          rintro e w9 ⟨rfl, hx⟩
          exact hK _ _ ⟨_, rfl, by simp only [over, overL, Nat.reduceAdd, h145, h147]; rfl, hx ▸ Below.refl _ _⟩
        · intro f wz hb ⟨h144, h148, _⟩ K hK
          have h144 : f 144 = _ := h144
          have h148 : f 148 = _ := h148
          simp only [over, overL, Nat.reduceAdd, h144, h148]
          go_simp
          exact hK _ _ ⟨_, rfl, by simp only [over, overL, Nat.reduceAdd, h144, h148]; rfl, Below.refl _ _⟩
        · intro f wz hb ⟨h149, _⟩ K hK
          have h149 : f 149 = _ := h149
          have c0 := cell_later hb G0.out
          have c1 := cell_later hb G1.out
          simp only [over, overL, Nat.reduceAdd, h149]
          go_simp
          exact hK _ _ ⟨_, rfl, by simp only [over, overL, Nat.reduceAdd, h149]; rfl, Below.refl _ _⟩
        · intro f wz hb ⟨h143, h150, _⟩ K hK
          have h143 : f 143 = _ := h143
          have h150 : f 150 = _ := h150
          simp only [over, overL, Nat.reduceAdd, h143, h150]
          go_simp
          exact hK _ _ ⟨_, rfl, by simp only [over, overL, Nat.reduceAdd, h143, h150]; rfl, Below.refl _ _⟩
        · intro f wz hb ⟨h138, h151, _⟩ K hK
          have h138 : f 138 = _ := h138
          have h151 : f 151 = _ := h151
          simp only [over, overL, Nat.reduceAdd, h138, h151]
          go_simp
          refine Calls.mono (HAT.out _ (HB7.out.trans (hb.mono HB7.out.size))) ?_
          rintro e w9 ⟨rfl, hb9⟩
          exact hK _ _ ⟨_, rfl, by simp only [over, overL, Nat.reduceAdd, h138, h151]; rfl, hb9⟩
        · intro f wz hb ⟨h152, _⟩ K hK
          have h152 : f 152 = _ := h152
          simp only [over, overL, Nat.reduceAdd, h152]
          go_simp
          exact hK _ _ ⟨_, rfl, by simp only [over, overL, Nat.reduceAdd, h152]; rfl, Below.refl _ _⟩
        · intro f wz hb ⟨h137, _⟩ K hK
          have h137 : f 137 = _ := h137
          simp only [over, overL, Nat.reduceAdd, h137]
          go_simp
          exact hK _ _ ⟨_, rfl, by simp only [over, overL, Nat.reduceAdd, h137]; rfl, Below.refl _ _⟩
        · intro f wz hb ⟨h137, _⟩ K hK
          have h137 : f 137 = _ := h137
          simp only [over, overL, Nat.reduceAdd, h137]
          go_simp
          exact hK _ _ ⟨_, rfl, by simp only [over, overL, Nat.reduceAdd, h137]; rfl, Below.refl _ _⟩
        · intro f wz hb _ K hK
          simp only [over, overL, Nat.reduceAdd]
          go_simp
          exact hK _ _ ⟨_, ⟨wz.heap.size, rfl, hb.size, T3.new wz 0 0 0 46 _ rfl⟩, by simp only [over, overL, Nat.reduceAdd]; rfl, (Below.refl _ _).alloc (Nat.le_refl _) _⟩
      · intro f v hbv ⟨h138, h139, h140, h141, h142, h143, h144, h145, h146, h147, h148, h149, h150, h151, h152, h137, h153, h154, h19, _⟩
        have h138 : f 138 = .slice (some ⟨b, off, none⟩) nn cap := h138
        have h139 : f 139 = .slice (some ⟨b, off, none⟩) nn cap := h139
        have h140 : f 140 = .int .i64 (k : Int) := h140
        have h141 : f 141 = .pointer (some ⟨b, off + k * 14, none⟩) := h141
        have h142 : f 142 = .pointer (some ⟨b, off + k * 14, none⟩) := h142
        have h143 : f 143 = .int .i64 s.slot := h143
        have h144 : f 144 = .slice (some ⟨gb, 0, none⟩) q capg := h144
        have h145 : f 145 = .int .i64 g := h145
        have h146 : f 146 = .slice (some ⟨gb, 0, none⟩) q capg := h146
        have h147 : f 147 = .int .i64 (q : Int) := h147
        have h148 : f 148 = .int .i64 (j : Int) := h148
        have h149 : f 149 = .pointer (some ⟨gb, j * 2, none⟩) := h149
        have h150 : f 150 = .agg #[.int .i64 r, .int .i64 c] := h150
        have h151 : f 151 = ptv s.slot r c := h151
        have h152 : f 152 = .tuple #[ptv X Y Z, .int .i64 0] := h152
        have h137 : f 137 = .tuple #[ptv X Y Z, .int .i64 0] := h137
        have h153 : f 153 = ptv X Y Z := h153
        have h154 : f 154 = .int .i64 0 := h154
        obtain ⟨pb, h19, hbb, ht⟩ := (show ∃ pb, f 19 = ptr pb ∧ w7.heap.size ≤ pb ∧ T3 pb 0 0 0 v from h19)
        have hp := T3.put ht X Y Z
        obtain ⟨lt, z0, z1, z2, f0, f1, f2⟩ := ht
        have hk := HTL.out f _ pb (below_put3 hbv hbb) hbb hp h138 h139 h140 h141 h142 h143 h144 h145 h146 h147 h148 h149 h150 h151 h152 h137 h153 h154 h19
        rw [hM] at hk
        simp only [over_eq, overL, Nat.reduceAdd, List.drop_succ_cons, List.drop_zero, h138, h139, h140, h141, h142, h143, h144, h145, h146, h147, h148, h149, h150, h151, h152, h137, h153, h154, h19] at hk ⊢
        go_wp2
        exact hk
      · intro f v ok ol hok hol hbv ⟨h138, h139, h140, h141, h142, h143, h144, h145, h146, h147, h148, h149, h150, h151, h152, h137, h153, h154, h19, _⟩
        cases hok
        cases hol
        have h138 : f 138 = .slice (some ⟨b, off, none⟩) nn cap := h138 (by decide)
        have h139 : f 139 = .slice (some ⟨b, off, none⟩) nn cap := h139 (by decide)
        have h140 : f 140 = .int .i64 (k : Int) := h140 (by decide)
        have h141 : f 141 = .pointer (some ⟨b, off + k * 14, none⟩) := h141 (by decide)
        have h142 : f 142 = .pointer (some ⟨b, off + k * 14, none⟩) := h142 (by decide)
        have h143 : f 143 = .int .i64 s.slot := h143 (by decide)
        have h144 : f 144 = .slice (some ⟨gb, 0, none⟩) q capg := h144 (by decide)
        have h145 : f 145 = .int .i64 g := h145 (by decide)
        have h146 : f 146 = .slice (some ⟨gb, 0, none⟩) q capg := h146 (by decide)
        have h147 : f 147 = .int .i64 (q : Int) := h147 (by decide)
        have h148 : f 148 = .int .i64 (j : Int) := h148 (by decide)
        have h149 : f 149 = .pointer (some ⟨gb, j * 2, none⟩) := h149 (by decide)
        have h150 : f 150 = .agg #[.int .i64 r, .int .i64 c] := h150 (by decide)
        have h151 : f 151 = ptv s.slot r c := h151 (by decide)
        have h152 : f 152 = .tuple #[ptv X Y Z, .int .i64 0] := h152 (by decide)
        have h137 : f 137 = .tuple #[ptv X Y Z, .int .i64 0] := h137 (by decide)
        have h153 : f 153 = ptv X Y Z := h153 (by decide)
        obtain ⟨pb, h19, hbb, ht⟩ := (show ∃ pb, f 19 = ptr pb ∧ w7.heap.size ≤ pb ∧ T3 pb 0 0 0 v from h19 (by decide))
        have hp := T3.put ht X Y Z
        obtain ⟨lt, z0, z1, z2, f0, f1, f2⟩ := ht
        have hk := HTL.out (upd f 154 (.int .i64 0)) _ pb (below_put3 hbv hbb) hbb hp ((upd_other (by decide)).trans h138) ((upd_other (by decide)).trans h139) ((upd_other (by decide)).trans h140) ((upd_other (by decide)).trans h141) ((upd_other (by decide)).trans h142) ((upd_other (by decide)).trans h143) ((upd_other (by decide)).trans h144) ((upd_other (by decide)).trans h145) ((upd_other (by decide)).trans h146) ((upd_other (by decide)).trans h147) ((upd_other (by decide)).trans h148) ((upd_other (by decide)).trans h149) ((upd_other (by decide)).trans h150) ((upd_other (by decide)).trans h151) ((upd_other (by decide)).trans h152) ((upd_other (by decide)).trans h137) ((upd_other (by decide)).trans h153) (upd_same _ _ _) ((upd_other (by decide)).trans h19)
        rw [← over_put _ _ _ _ _ (by rw [hM]; rfl)] at hk
        rw [hM] at hk
        simp only [over_eq, overL, Nat.reduceAdd, List.drop_succ_cons, List.drop_zero, h138, h139, h140, h141, h142, h143, h144, h145, h146, h147, h148, h149, h150, h151, h152, h137, h153, h19] at hk ⊢
        go_wp2
        exact hk
    · intro f w8 pb hb8 hpb tp8 h138 h139 h140 h141 h142 h143 h144 h145 h146 h147 h148 h149 h150 h151 h152 h137 h153 h154 h19
      refine HKK.out _ _ ?_
      rw [hM]
      simp only [over_eq, overL, Nat.reduceAdd, h138, h139, h140, h141, h142, h143, h144, h145, h146, h147, h148, h149, h150, h151, h152, h137, h153, h154, h19]
      simp only [Act.put, List.setIfInBounds_toArray, List.set_cons_succ, List.set_cons_zero]
      have HB8 : Hid (Below w5.heap.size w5 w8) := HB7.out.trans (hb8.mono HB7.out.size)
      have TP8 : Hid (T3 pb X Y Z w8) := tp8
      clear h138 h139 h140 h141 h142 h143 h144 h145 h146 h147 h148 h149 h150 h151 h152 h137 h153 h154 h19 HKK hM M hb8 tp8 hpb HAT HPI HPK G0 G1 HB7
      go_wp2_with fail
      obtain ⟨B, hB⟩ : ∃ B, B = boxOf s := ⟨_, rfl⟩
      rw [← hB] at HWI
      have HCB : Hid (∀ W : World, Below w5.heap.size w5 W → S.BxAt W bb (ob + k * 6) B) := fun W hW => by rw [hB]; exact HCB.out W hW
      clear hB
      have k0 : decide (X < B.lx) = false := by have := HWI.out; simp; omega
      have k1 : decide (B.hx < X) = false := by have := HWI.out; simp; omega
      have k2 : decide (Y < B.ly) = false := by have := HWI.out; simp; omega
      have k3 : decide (B.hy < Y) = false := by have := HWI.out; simp; omega
      have k4 : decide (Z < B.lz) = false := by have := HWI.out; simp; omega
      have k5 : decide (B.hz < Z) = false := by have := HWI.out; simp; omega
      rename_i KK2 hkk
      have HKK2 := (show Hid _ from hkk)
      clear hkk
      refine region_inv [false, false, false, false, false, false, false, false, false, false, false, false, false, false, false, false, false, false, false, false, false, false, false, false, false, false, false, false, false, false, false, false, false, false, false, false, false, false, false, false, false, false, false, false, false, false, false, false, false, false, false, false, false, false, false, false, false, false, false, false, false, false, false, false, false, false, false, false, false, false, false, false, false, false, false, false, false, false, false, false, false, false, false, false, false, false, false, false, false, false, false, false, false, false, false, false, false, false, false, false, false, false, false, false, false, false, false, false, false, false, false, false, false, false, false, false, false, false, false, false, false, false, false, false, false, false, false, false, false, false, false, false, false, false, false, false, false, false, false, false, false, false, false, false, false, false, false, false, false, false, false, false, false, false, false, true, true, true, true, true, true, true, true, true, true, true, true, true, true, true, true, true, true, true, true, true, true, true, true, true, true, true, true, true, true, true, true, true, true, true, true, true, true, true, true, true, true, true, true, true, true, true, true, true, true, true, true, true, true, true, true, true, true, true, true, true, true, true, true, true, true, true, true]
        [(155, [], none), (156, [155], none), (157, [156], none), (158, [157], some (157, false)), (159, [157, 158], some (157, false)), (160, [157], some (157, false)), (161, [157], some (157, false)), (162, [157, 160, 161], some (157, false)), (163, [157, 162], some (157, false)), (164, [157, 163], some (157, false)), (165, [157, 164], some (157, false)), (166, [157, 159, 165], some (157, false)), (167, [157, 166], none), (168, [167], none), (169, [168], some (168, false)), (170, [168, 169], some (168, false)), (171, [168], some (168, false)), (172, [168], some (168, false)), (173, [168, 171, 172], some (168, false)), (174, [168, 173], some (168, false)), (175, [168, 174], some (168, false)), (176, [168, 175], some (168, false)), (177, [168, 170, 176], some (168, false)), (178, [168, 177], none), (179, [178], none), (180, [179], some (179, false)), (181, [179, 180], some (179, false)), (182, [179], some (179, false)), (183, [179], some (179, false)), (184, [179, 182, 183], some (179, false)), (185, [179, 184], some (179, false)), (186, [179, 185], some (179, false)), (187, [179, 186], some (179, false)), (188, [179, 181, 187], some (179, false)), (189, [179, 188], none), (190, [189], none), (191, [190], some (190, false)), (192, [190, 191], some (190, false)), (193, [190], some (190, false)), (194, [190], some (190, false)), (195, [190, 193, 194], some (190, false)), (196, [190, 195], some (190, false)), (197, [190, 196], some (190, false)), (198, [190, 197], some (190, false)), (199, [190, 192, 198], some (190, false)), (200, [190, 199], none), (201, [200], none), (202, [201], some (201, false)), (203, [201, 202], some (201, false)), (204, [201], some (201, false)), (205, [201], some (201, false)), (206, [201, 204, 205], some (201, false)), (207, [201, 206], some (201, false)), (208, [201, 207], some (201, false)), (209, [201, 208], some (201, false)), (210, [201, 203, 209], some (201, false)), (211, [201, 210], none), (212, [211], none), (213, [212], some (212, false)), (214, [212, 213], some (212, false)), (215, [212], some (212, false)), (216, [212], some (212, false)), (217, [212, 215, 216], some (212, false)), (218, [212, 217], some (212, false)), (219, [212, 218], some (212, false)), (220, [212, 219], some (212, false)), (221, [212, 214, 220], some (212, false)), (222, [212, 221], none)]
        (b21V B (.slice (some ⟨bb, ob, none⟩) nn capb) X Y Z pb bb ob k) (by kernel_rfl) (by kernel_rfl) (fun _ _ _ _ h _ => h) ?_ ?_
      · refine ⟨?_, ?_, ?_, ?_, ?_, ?_, ?_, ?_, ?_, ?_, ?_, ?_, ?_, ?_, ?_, ?_, ?_, ?_, ?_, ?_, ?_, ?_, ?_, ?_, ?_, ?_, ?_, ?_, ?_, ?_, ?_, ?_, ?_, ?_, ?_, ?_, ?_, ?_, ?_, ?_, ?_, ?_, ?_, ?_, ?_, ?_, ?_, ?_, ?_, ?_, ?_, ?_, ?_, ?_, ?_, ?_, ?_, ?_, ?_, ?_, ?_, ?_, ?_, ?_, ?_, ?_, ?_, ?_, trivial⟩
        · intro f wz hb _ K hK
          simp only [over, overL, Nat.reduceAdd]
          go_simp
          exact hK _ _ ⟨_, rfl, by simp only [over, overL, Nat.reduceAdd]; rfl, Below.refl _ _⟩
        · intro f wz hb ⟨h155, _⟩ K hK
          have h155 : f 155 = _ := h155
          simp only [over, overL, Nat.reduceAdd, h155]
          go_simp
          exact hK _ _ ⟨_, rfl, by simp only [over, overL, Nat.reduceAdd, h155]; rfl, Below.refl _ _⟩
        · intro f wz hb ⟨h156, _⟩ K hK
          have h156 : f 156 = _ := h156
          simp only [over, overL, Nat.reduceAdd, h156]
          go_simp
          exact hK _ _ ⟨_, rfl, by simp only [over, overL, Nat.reduceAdd, h156]; rfl, Below.refl _ _⟩
        · intro f wz hb ⟨h157, _⟩
          have h157 : f 157 = _ := h157
          refine ⟨fun _ => ?_, fun hg => absurd h157 hg⟩
          intro K hK
          simp only [over, overL, Nat.reduceAdd, h157]
          go_simp
          exact hK _ _ ⟨_, rfl, by simp only [over, overL, Nat.reduceAdd, h157]; rfl, Below.refl _ _⟩
        · intro f wz hb ⟨h157, h158, _⟩
          have h157 : f 157 = _ := h157
          have h158 : f 158 = _ := h158
          refine ⟨fun _ => ?_, fun hg => absurd h157 hg⟩
          intro K hK
          obtain ⟨_, t0, t1, t2, _, _, _⟩ := TP8.out.later hb
          simp only [over, overL, Nat.reduceAdd, h157, h158]
          go_simp
          exact hK _ _ ⟨_, rfl, by simp only [over, overL, Nat.reduceAdd, h157, h158]; rfl, Below.refl _ _⟩
        · intro f wz hb ⟨h157, _⟩
          have h157 : f 157 = _ := h157
          refine ⟨fun _ => ?_, fun hg => absurd h157 hg⟩
          intro K hK
          simp only [over, overL, Nat.reduceAdd, h157]
          go_simp
          exact hK _ _ ⟨_, rfl, by simp only [over, overL, Nat.reduceAdd, h157]; rfl, Below.refl _ _⟩
        · intro f wz hb ⟨h157, _⟩
          have h157 : f 157 = _ := h157
          refine ⟨fun _ => ?_, fun hg => absurd h157 hg⟩
          intro K hK
          simp only [over, overL, Nat.reduceAdd, h157]
          go_simp
          exact hK _ _ ⟨_, rfl, by simp only [over, overL, Nat.reduceAdd, h157]; rfl, Below.refl _ _⟩
        · intro f wz hb ⟨h157, h160, h161, _⟩
          have h157 : f 157 = _ := h157
          have h160 : f 160 = _ := h160
          have h161 : f 161 = _ := h161
          refine ⟨fun _ => ?_, fun hg => absurd h157 hg⟩
          intro K hK
          simp only [over, overL, Nat.reduceAdd, h157, h160, h161]
          go_simp
          exact hK _ _ ⟨_, rfl, by simp only [over, overL, Nat.reduceAdd, h157, h160, h161]; rfl, Below.refl _ _⟩
        · intro f wz hb ⟨h157, h162, _⟩
          have h157 : f 157 = _ := h157
          have h162 : f 162 = _ := h162
          refine ⟨fun _ => ?_, fun hg => absurd h157 hg⟩
          intro K hK
          simp only [over, overL, Nat.reduceAdd, h157, h162]
          go_simp
          exact hK _ _ ⟨_, rfl, by simp only [over, overL, Nat.reduceAdd, h157, h162]; rfl, Below.refl _ _⟩
        · intro f wz hb ⟨h157, h163, _⟩
          have h157 : f 157 = _ := h157
          have h163 : f 163 = _ := h163
          refine ⟨fun _ => ?_, fun hg => absurd h157 hg⟩
          intro K hK
          simp only [over, overL, Nat.reduceAdd, h157, h163]
          go_simp
          exact hK _ _ ⟨_, rfl, by simp only [over, overL, Nat.reduceAdd, h157, h163]; rfl, Below.refl _ _⟩
        · intro f wz hb ⟨h157, h164, _⟩
          have h157 : f 157 = _ := h157
          have h164 : f 164 = _ := h164
          refine ⟨fun _ => ?_, fun hg => absurd h157 hg⟩
          intro K hK
          obtain ⟨_, c0, c1, c2, c3, c4, c5⟩ := HCB.out wz (HB8.out.trans (hb.mono HB8.out.size))
          simp only [over, overL, Nat.reduceAdd, h157, h164]
          go_simp
          exact hK _ _ ⟨_, rfl, by simp only [over, overL, Nat.reduceAdd, h157, h164]; rfl, Below.refl _ _⟩
        · intro f wz hb ⟨h157, h159, h165, _⟩
          have h157 : f 157 = _ := h157
          have h159 : f 159 = _ := h159
          have h165 : f 165 = _ := h165
          refine ⟨fun _ => ?_, fun hg => absurd h157 hg⟩
          intro K hK
          simp only [over, overL, Nat.reduceAdd, h157, h159, h165]
          go_simp
          exact hK _ _ ⟨_, rfl, by simp only [over, overL, Nat.reduceAdd, h157, h159, h165]; rfl, Below.refl _ _⟩
        · intro f wz hb ⟨h157, h166, _⟩ K hK
          have h157 : f 157 = _ := h157
          have h166 : f 166 = _ := h166
          simp only [over, overL, Nat.reduceAdd, h157, h166]
          go_simp
          exact hK _ _ ⟨_, rfl, by simp only [over, overL, Nat.reduceAdd, h157, h166]; rfl, Below.refl _ _⟩
        · intro f wz hb ⟨h167, _⟩ K hK
          have h167 : f 167 = _ := h167
          simp only [over, overL, Nat.reduceAdd, h167]
          go_simp
          exact hK _ _ ⟨_, rfl, by simp only [over, overL, Nat.reduceAdd, h167]; rfl, Below.refl _ _⟩
        · intro f wz hb ⟨h168, _⟩
          have h168 : f 168 = _ := h168
          refine ⟨fun _ => ?_, fun hg => absurd h168 hg⟩
          intro K hK
          simp only [over, overL, Nat.reduceAdd, h168]
          go_simp
          exact hK _ _ ⟨_, rfl, by simp only [over, overL, Nat.reduceAdd, h168]; rfl, Below.refl _ _⟩
        · intro f wz hb ⟨h168, h169, _⟩
          have h168 : f 168 = _ := h168
          have h169 : f 169 = _ := h169
          refine ⟨fun _ => ?_, fun hg => absurd h168 hg⟩
          intro K hK
          obtain ⟨_, t0, t1, t2, _, _, _⟩ := TP8.out.later hb
          simp only [over, overL, Nat.reduceAdd, h168, h169]
          go_simp
          exact hK _ _ ⟨_, rfl, by simp only [over, overL, Nat.reduceAdd, h168, h169]; rfl, Below.refl _ _⟩
        · intro f wz hb ⟨h168, _⟩
          have h168 : f 168 = _ := h168
          refine ⟨fun _ => ?_, fun hg => absurd h168 hg⟩
          intro K hK
          simp only [over, overL, Nat.reduceAdd, h168]
          go_simp
          exact hK _ _ ⟨_, rfl, by simp only [over, overL, Nat.reduceAdd, h168]; rfl, Below.refl _ _⟩
        · intro f wz hb ⟨h168, _⟩
          have h168 : f 168 = _ := h168
          refine ⟨fun _ => ?_, fun hg => absurd h168 hg⟩
          intro K hK
          simp only [over, overL, Nat.reduceAdd, h168]
          go_simp
          exact hK _ _ ⟨_, rfl, by simp only [over, overL, Nat.reduceAdd, h168]; rfl, Below.refl _ _⟩
        · intro f wz hb ⟨h168, h171, h172, _⟩
          have h168 : f 168 = _ := h168
          have h171 : f 171 = _ := h171
          have h172 : f 172 = _ := h172
          refine ⟨fun _ => ?_, fun hg => absurd h168 hg⟩
          intro K hK
          simp only [over, overL, Nat.reduceAdd, h168, h171, h172]
          go_simp
          exact hK _ _ ⟨_, rfl, by simp only [over, overL, Nat.reduceAdd, h168, h171, h172]; rfl, Below.refl _ _⟩
        · intro f wz hb ⟨h168, h173, _⟩
          have h168 : f 168 = _ := h168
          have h173 : f 173 = _ := h173
          refine ⟨fun _ => ?_, fun hg => absurd h168 hg⟩
          intro K hK
          simp only [over, overL, Nat.reduceAdd, h168, h173]
          go_simp
          exact hK _ _ ⟨_, rfl, by simp only [over, overL, Nat.reduceAdd, h168, h173]; rfl, Below.refl _ _⟩
        · intro f wz hb ⟨h168, h174, _⟩
          have h168 : f 168 = _ := h168
          have h174 : f 174 = _ := h174
          refine ⟨fun _ => ?_, fun hg => absurd h168 hg⟩
          intro K hK
          simp only [over, overL, Nat.reduceAdd, h168, h174]
          go_simp
          exact hK _ _ ⟨_, rfl, by simp only [over, overL, Nat.reduceAdd, h168, h174]; rfl, Below.refl _ _⟩
        · intro f wz hb ⟨h168, h175, _⟩
          have h168 : f 168 = _ := h168
          have h175 : f 175 = _ := h175
          refine ⟨fun _ => ?_, fun hg => absurd h168 hg⟩
          intro K hK
          obtain ⟨_, c0, c1, c2, c3, c4, c5⟩ := HCB.out wz (HB8.out.trans (hb.mono HB8.out.size))
          simp only [over, overL, Nat.reduceAdd, h168, h175]
          go_simp
          exact hK _ _ ⟨_, rfl, by simp only [over, overL, Nat.reduceAdd, h168, h175]; rfl, Below.refl _ _⟩
        · intro f wz hb ⟨h168, h170, h176, _⟩
          have h168 : f 168 = _ := h168
          have h170 : f 170 = _ := h170
          have h176 : f 176 = _ := h176
          refine ⟨fun _ => ?_, fun hg => absurd h168 hg⟩
          intro K hK
          simp only [over, overL, Nat.reduceAdd, h168, h170, h176]
          go_simp
          exact hK _ _ ⟨_, rfl, by simp only [over, overL, Nat.reduceAdd, h168, h170, h176]; rfl, Below.refl _ _⟩
        · intro f wz hb ⟨h168, h177, _⟩ K hK
          have h168 : f 168 = _ := h168
          have h177 : f 177 = _ := h177
          simp only [over, overL, Nat.reduceAdd, h168, h177]
          go_simp
          exact hK _ _ ⟨_, rfl, by simp only [over, overL, Nat.reduceAdd, h168, h177]; rfl, Below.refl _ _⟩
        · intro f wz hb ⟨h178, _⟩ K hK
          have h178 : f 178 = _ := h178
          simp only [over, overL, Nat.reduceAdd, h178]
          go_simp
          exact hK _ _ ⟨_, rfl, by simp only [over, overL, Nat.reduceAdd, h178]; rfl, Below.refl _ _⟩
        · intro f wz hb ⟨h179, _⟩
          have h179 : f 179 = _ := h179
          refine ⟨fun _ => ?_, fun hg => absurd h179 hg⟩
          intro K hK
          simp only [over, overL, Nat.reduceAdd, h179]
          go_simp
          exact hK _ _ ⟨_, rfl, by simp only [over, overL, Nat.reduceAdd, h179]; rfl, Below.refl _ _⟩
        · intro f wz hb ⟨h179, h180, _⟩
          have h179 : f 179 = _ := h179
          have h180 : f 180 = _ := h180
          refine ⟨fun _ => ?_, fun hg => absurd h179 hg⟩
          intro K hK
          obtain ⟨_, t0, t1, t2, _, _, _⟩ := TP8.out.later hb
          simp only [over, overL, Nat.reduceAdd, h179, h180]
          go_simp
          exact hK _ _ ⟨_, rfl, by simp only [over, overL, Nat.reduceAdd, h179, h180]; rfl, Below.refl _ _⟩
        · intro f wz hb ⟨h179, _⟩
          have h179 : f 179 = _ := h179
          refine ⟨fun _ => ?_, fun hg => absurd h179 hg⟩
          intro K hK
          simp only [over, overL, Nat.reduceAdd, h179]
          go_simp
          exact hK _ _ ⟨_, rfl, by simp only [over, overL, Nat.reduceAdd, h179]; rfl, Below.refl _ _⟩
        · intro f wz hb ⟨h179, _⟩
          have h179 : f 179 = _ := h179
          refine ⟨fun _ => ?_, fun hg => absurd h179 hg⟩
          intro K hK
          simp only [over, overL, Nat.reduceAdd, h179]
          go_simp
          exact hK _ _ ⟨_, rfl, by simp only [over, overL, Nat.reduceAdd, h179]; rfl, Below.refl _ _⟩
        · intro f wz hb ⟨h179, h182, h183, _⟩
          have h179 : f 179 = _ := h179
          have h182 : f 182 = _ := h182
          have h183 : f 183 = _ := h183
          refine ⟨fun _ => ?_, fun hg => absurd h179 hg⟩
          intro K hK
          simp only [over, overL, Nat.reduceAdd, h179, h182, h183]
          go_simp
          exact hK _ _ ⟨_, rfl, by simp only [over, overL, Nat.reduceAdd, h179, h182, h183]; rfl, Below.refl _ _⟩
        · intro f wz hb ⟨h179, h184, _⟩
          have h179 : f 179 = _ := h179
          have h184 : f 184 = _ := h184
          refine ⟨fun _ => ?_, fun hg => absurd h179 hg⟩
          intro K hK
          simp only [over, overL, Nat.reduceAdd, h179, h184]
          go_simp
          exact hK _ _ ⟨_, rfl, by simp only [over, overL, Nat.reduceAdd, h179, h184]; rfl, Below.refl _ _⟩
        · intro f wz hb ⟨h179, h185, _⟩
          have h179 : f 179 = _ := h179
          have h185 : f 185 = _ := h185
          refine ⟨fun _ => ?_, fun hg => absurd h179 hg⟩
          intro K hK
          simp only [over, overL, Nat.reduceAdd, h179, h185]
          go_simp
          exact hK _ _ ⟨_, rfl, by simp only [over, overL, Nat.reduceAdd, h179, h185]; rfl, Below.refl _ _⟩
        · intro f wz hb ⟨h179, h186, _⟩
          have h179 : f 179 = _ := h179
          have h186 : f 186 = _ := h186
          refine ⟨fun _ => ?_, fun hg => absurd h179 hg⟩
          intro K hK
          obtain ⟨_, c0, c1, c2, c3, c4, c5⟩ := HCB.out wz (HB8.out.trans (hb.mono HB8.out.size))
          simp only [over, overL, Nat.reduceAdd, h179, h186]
          go_simp
          exact hK _ _ ⟨_, rfl, by simp only [over, overL, Nat.reduceAdd, h179, h186]; rfl, Below.refl _ _⟩
        · intro f wz hb ⟨h179, h181, h187, _⟩
          have h179 : f 179 = _ := h179
          have h181 : f 181 = _ := h181
          have h187 : f 187 = _ := h187
          refine ⟨fun _ => ?_, fun hg => absurd h179 hg⟩
          intro K hK
          simp only [over, overL, Nat.reduceAdd, h179, h181, h187]
          go_simp
          exact hK _ _ ⟨_, rfl, by simp only [over, overL, Nat.reduceAdd, h179, h181, h187]; rfl, Below.refl _ _⟩
        · intro f wz hb ⟨h179, h188, _⟩ K hK
          have h179 : f 179 = _ := h179
          have h188 : f 188 = _ := h188
          simp only [over, overL, Nat.reduceAdd, h179, h188]
          go_simp
          exact hK _ _ ⟨_, rfl, by simp only [over, overL, Nat.reduceAdd, h179, h188]; rfl, Below.refl _ _⟩
        · intro f wz hb ⟨h189, _⟩ K hK
          have h189 : f 189 = _ := h189
          simp only [over, overL, Nat.reduceAdd, h189]
          go_simp
          exact hK _ _ ⟨_, rfl, by simp only [over, overL, Nat.reduceAdd, h189]; rfl, Below.refl _ _⟩
        · intro f wz hb ⟨h190, _⟩
          have h190 : f 190 = _ := h190
          refine ⟨fun _ => ?_, fun hg => absurd h190 hg⟩
          intro K hK
          simp only [over, overL, Nat.reduceAdd, h190]
          go_simp
          exact hK _ _ ⟨_, rfl, by simp only [over, overL, Nat.reduceAdd, h190]; rfl, Below.refl _ _⟩
        · intro f wz hb ⟨h190, h191, _⟩
          have h190 : f 190 = _ := h190
          have h191 : f 191 = _ := h191
          refine ⟨fun _ => ?_, fun hg => absurd h190 hg⟩
          intro K hK
          obtain ⟨_, t0, t1, t2, _, _, _⟩ := TP8.out.later hb
          simp only [over, overL, Nat.reduceAdd, h190, h191]
          go_simp
          exact hK _ _ ⟨_, rfl, by simp only [over, overL, Nat.reduceAdd, h190, h191]; rfl, Below.refl _ _⟩
        · intro f wz hb ⟨h190, _⟩
          have h190 : f 190 = _ := h190
          refine ⟨fun _ => ?_, fun hg => absurd h190 hg⟩
          intro K hK
          simp only [over, overL, Nat.reduceAdd, h190]
          go_simp
          exact hK _ _ ⟨_, rfl, by simp only [over, overL, Nat.reduceAdd, h190]; rfl, Below.refl _ _⟩
        · intro f wz hb ⟨h190, _⟩
          have h190 : f 190 = _ := h190
          refine ⟨fun _ => ?_, fun hg => absurd h190 hg⟩
          intro K hK
          simp only [over, overL, Nat.reduceAdd, h190]
          go_simp
          exact hK _ _ ⟨_, rfl, by simp only [over, overL, Nat.reduceAdd, h190]; rfl, Below.refl _ _⟩
        · intro f wz hb ⟨h190, h193, h194, _⟩
          have h190 : f 190 = _ := h190
          have h193 : f 193 = _ := h193
          have h194 : f 194 = _ := h194
          refine ⟨fun _ => ?_, fun hg => absurd h190 hg⟩
          intro K hK
          simp only [over, overL, Nat.reduceAdd, h190, h193, h194]
          go_simp
          exact hK _ _ ⟨_, rfl, by simp only [over, overL, Nat.reduceAdd, h190, h193, h194]; rfl, Below.refl _ _⟩
        · intro f wz hb ⟨h190, h195, _⟩
          have h190 : f 190 = _ := h190
          have h195 : f 195 = _ := h195
          refine ⟨fun _ => ?_, fun hg => absurd h190 hg⟩
          intro K hK
          simp only [over, overL, Nat.reduceAdd, h190, h195]
          go_simp
          exact hK _ _ ⟨_, rfl, by simp only [over, overL, Nat.reduceAdd, h190, h195]; rfl, Below.refl _ _⟩
        · intro f wz hb ⟨h190, h196, _⟩
          have h190 : f 190 = _ := h190
          have h196 : f 196 = _ := h196
          refine ⟨fun _ => ?_, fun hg => absurd h190 hg⟩
          intro K hK
          simp only [over, overL, Nat.reduceAdd, h190, h196]
          go_simp
          exact hK _ _ ⟨_, rfl, by simp only [over, overL, Nat.reduceAdd, h190, h196]; rfl, Below.refl _ _⟩
        · intro f wz hb ⟨h190, h197, _⟩
          have h190 : f 190 = _ := h190
          have h197 : f 197 = _ := h197
          refine ⟨fun _ => ?_, fun hg => absurd h190 hg⟩
          intro K hK
          obtain ⟨_, c0, c1, c2, c3, c4, c5⟩ := HCB.out wz (HB8.out.trans (hb.mono HB8.out.size))
          simp only [over, overL, Nat.reduceAdd, h190, h197]
          go_simp
          exact hK _ _ ⟨_, rfl, by simp only [over, overL, Nat.reduceAdd, h190, h197]; rfl, Below.refl _ _⟩
        · intro f wz hb ⟨h190, h192, h198, _⟩
          have h190 : f 190 = _ := h190
          have h192 : f 192 = _ := h192
          have h198 : f 198 = _ := h198
          refine ⟨fun _ => ?_, fun hg => absurd h190 hg⟩
          intro K hK
          simp only [over, overL, Nat.reduceAdd, h190, h192, h198]
          go_simp
          exact hK _ _ ⟨_, rfl, by simp only [over, overL, Nat.reduceAdd, h190, h192, h198]; rfl, Below.refl _ _⟩
        · intro f wz hb ⟨h190, h199, _⟩ K hK
          have h190 : f 190 = _ := h190
          have h199 : f 199 = _ := h199
          simp only [over, overL, Nat.reduceAdd, h190, h199]
          go_simp
          exact hK _ _ ⟨_, rfl, by simp only [over, overL, Nat.reduceAdd, h190, h199]; rfl, Below.refl _ _⟩
        · intro f wz hb ⟨h200, _⟩ K hK
          have h200 : f 200 = _ := h200
          simp only [over, overL, Nat.reduceAdd, h200]
          go_simp
          exact hK _ _ ⟨_, rfl, by simp only [over, overL, Nat.reduceAdd, h200]; rfl, Below.refl _ _⟩
        · intro f wz hb ⟨h201, _⟩
          have h201 : f 201 = _ := h201
          refine ⟨fun _ => ?_, fun hg => absurd h201 hg⟩
          intro K hK
          simp only [over, overL, Nat.reduceAdd, h201]
          go_simp
          exact hK _ _ ⟨_, rfl, by simp only [over, overL, Nat.reduceAdd, h201]; rfl, Below.refl _ _⟩
        · intro f wz hb ⟨h201, h202, _⟩
          have h201 : f 201 = _ := h201
          have h202 : f 202 = _ := h202
          refine ⟨fun _ => ?_, fun hg => absurd h201 hg⟩
          intro K hK
          obtain ⟨_, t0, t1, t2, _, _, _⟩ := TP8.out.later hb
          simp only [over, overL, Nat.reduceAdd, h201, h202]
          go_simp
          exact hK _ _ ⟨_, rfl, by simp only [over, overL, Nat.reduceAdd, h201, h202]; rfl, Below.refl _ _⟩
        · intro f wz hb ⟨h201, _⟩
          have h201 : f 201 = _ := h201
          refine ⟨fun _ => ?_, fun hg => absurd h201 hg⟩
          intro K hK
          simp only [over, overL, Nat.reduceAdd, h201]
          go_simp
          exact hK _ _ ⟨_, rfl, by simp only [over, overL, Nat.reduceAdd, h201]; rfl, Below.refl _ _⟩
        · intro f wz hb ⟨h201, _⟩
          have h201 : f 201 = _ := h201
          refine ⟨fun _ => ?_, fun hg => absurd h201 hg⟩
          intro K hK
          simp only [over, overL, Nat.reduceAdd, h201]
          go_simp
          exact hK _ _ ⟨_, rfl, by simp only [over, overL, Nat.reduceAdd, h201]; rfl, Below.refl _ _⟩
        · intro f wz hb ⟨h201, h204, h205, _⟩
          have h201 : f 201 = _ := h201
          have h204 : f 204 = _ := h204
          have h205 : f 205 = _ := h205
          refine ⟨fun _ => ?_, fun hg => absurd h201 hg⟩
          intro K hK
          simp only [over, overL, Nat.reduceAdd, h201, h204, h205]
          go_simp
          exact hK _ _ ⟨_, rfl, by simp only [over, overL, Nat.reduceAdd, h201, h204, h205]; rfl, Below.refl _ _⟩
        · intro f wz hb ⟨h201, h206, _⟩
          have h201 : f 201 = _ := h201
          have h206 : f 206 = _ := h206
          refine ⟨fun _ => ?_, fun hg => absurd h201 hg⟩
          intro K hK
          simp only [over, overL, Nat.reduceAdd, h201, h206]
          go_simp
          exact hK _ _ ⟨_, rfl, by simp only [over, overL, Nat.reduceAdd, h201, h206]; rfl, Below.refl _ _⟩
        · intro f wz hb ⟨h201, h207, _⟩
          have h201 : f 201 = _ := h201
          have h207 : f 207 = _ := h207
          refine ⟨fun _ => ?_, fun hg => absurd h201 hg⟩
          intro K hK
          simp only [over, overL, Nat.reduceAdd, h201, h207]
          go_simp
          exact hK _ _ ⟨_, rfl, by simp only [over, overL, Nat.reduceAdd, h201, h207]; rfl, Below.refl _ _⟩
        · intro f wz hb ⟨h201, h208, _⟩
          have h201 : f 201 = _ := h201
          have h208 : f 208 = _ := h208
          refine ⟨fun _ => ?_, fun hg => absurd h201 hg⟩
          intro K hK
          obtain ⟨_, c0, c1, c2, c3, c4, c5⟩ := HCB.out wz (HB8.out.trans (hb.mono HB8.out.size))
          simp only [over, overL, Nat.reduceAdd, h201, h208]
          go_simp
          exact hK _ _ ⟨_, rfl, by simp only [over, overL, Nat.reduceAdd, h201, h208]; rfl, Below.refl _ _⟩
        · intro f wz hb ⟨h201, h203, h209, _⟩
          have h201 : f 201 = _ := h201
          have h203 : f 203 = _ := h203
          have h209 : f 209 = _ := h209
          refine ⟨fun _ => ?_, fun hg => absurd h201 hg⟩
          intro K hK
          simp only [over, overL, Nat.reduceAdd, h201, h203, h209]
          go_simp
          exact hK _ _ ⟨_, rfl, by simp only [over, overL, Nat.reduceAdd, h201, h203, h209]; rfl, Below.refl _ _⟩
        · intro f wz hb ⟨h201, h210, _⟩ K hK
          have h201 : f 201 = _ := h201
          have h210 : f 210 = _ := h210
          simp only [over, overL, Nat.reduceAdd, h201, h210]
          go_simp
          exact hK _ _ ⟨_, rfl, by simp only [over, overL, Nat.reduceAdd, h201, h210]; rfl, Below.refl _ _⟩
        · intro f wz hb ⟨h211, _⟩ K hK
          have h211 : f 211 = _ := h211
          simp only [over, overL, Nat.reduceAdd, h211]
          go_simp
          exact hK _ _ ⟨_, rfl, by simp only [over, overL, Nat.reduceAdd, h211]; rfl, Below.refl _ _⟩
        · intro f wz hb ⟨h212, _⟩
          have h212 : f 212 = _ := h212
          refine ⟨fun _ => ?_, fun hg => absurd h212 hg⟩
          intro K hK
          simp only [over, overL, Nat.reduceAdd, h212]
          go_simp
          exact hK _ _ ⟨_, rfl, by simp only [over, overL, Nat.reduceAdd, h212]; rfl, Below.refl _ _⟩
        · intro f wz hb ⟨h212, h213, _⟩
          have h212 : f 212 = _ := h212
          have h213 : f 213 = _ := h213
          refine ⟨fun _ => ?_, fun hg => absurd h212 hg⟩
          intro K hK
          obtain ⟨_, t0, t1, t2, _, _, _⟩ := TP8.out.later hb
          simp only [over, overL, Nat.reduceAdd, h212, h213]
          go_simp
          exact hK _ _ ⟨_, rfl, by simp only [over, overL, Nat.reduceAdd, h212, h213]; rfl, Below.refl _ _⟩
        · intro f wz hb ⟨h212, _⟩
          have h212 : f 212 = _ := h212
          refine ⟨fun _ => ?_, fun hg => absurd h212 hg⟩
          intro K hK
          simp only [over, overL, Nat.reduceAdd, h212]
          go_simp
          exact hK _ _ ⟨_, rfl, by simp only [over, overL, Nat.reduceAdd, h212]; rfl, Below.refl _ _⟩
        · intro f wz hb ⟨h212, _⟩
          have h212 : f 212 = _ := h212
          refine ⟨fun _ => ?_, fun hg => absurd h212 hg⟩
          intro K hK
          simp only [over, overL, Nat.reduceAdd, h212]
          go_simp
          exact hK _ _ ⟨_, rfl, by simp only [over, overL, Nat.reduceAdd, h212]; rfl, Below.refl _ _⟩
        · intro f wz hb ⟨h212, h215, h216, _⟩
          have h212 : f 212 = _ := h212
          have h215 : f 215 = _ := h215
          have h216 : f 216 = _ := h216
          refine ⟨fun _ => ?_, fun hg => absurd h212 hg⟩
          intro K hK
          simp only [over, overL, Nat.reduceAdd, h212, h215, h216]
          go_simp
          exact hK _ _ ⟨_, rfl, by simp only [over, overL, Nat.reduceAdd, h212, h215, h216]; rfl, Below.refl _ _⟩
        · intro f wz hb ⟨h212, h217, _⟩
          have h212 : f 212 = _ := h212
          have h217 : f 217 = _ := h217
          refine ⟨fun _ => ?_, fun hg => absurd h212 hg⟩
          intro K hK
          simp only [over, overL, Nat.reduceAdd, h212, h217]
          go_simp
          exact hK _ _ ⟨_, rfl, by simp only [over, overL, Nat.reduceAdd, h212, h217]; rfl, Below.refl _ _⟩
        · intro f wz hb ⟨h212, h218, _⟩
          have h212 : f 212 = _ := h212
          have h218 : f 218 = _ := h218
          refine ⟨fun _ => ?_, fun hg => absurd h212 hg⟩
          intro K hK
          simp only [over, overL, Nat.reduceAdd, h212, h218]
          go_simp
          exact hK _ _ ⟨_, rfl, by simp only [over, overL, Nat.reduceAdd, h212, h218]; rfl, Below.refl _ _⟩
        · intro f wz hb ⟨h212, h219, _⟩
          have h212 : f 212 = _ := h212
          have h219 : f 219 = _ := h219
          refine ⟨fun _ => ?_, fun hg => absurd h212 hg⟩
          intro K hK
          obtain ⟨_, c0, c1, c2, c3, c4, c5⟩ := HCB.out wz (HB8.out.trans (hb.mono HB8.out.size))
          simp only [over, overL, Nat.reduceAdd, h212, h219]
          go_simp
          exact hK _ _ ⟨_, rfl, by simp only [over, overL, Nat.reduceAdd, h212, h219]; rfl, Below.refl _ _⟩
        · intro f wz hb ⟨h212, h214, h220, _⟩
          have h212 : f 212 = _ := h212
          have h214 : f 214 = _ := h214
          have h220 : f 220 = _ := h220
          refine ⟨fun _ => ?_, fun hg => absurd h212 hg⟩
          intro K hK
          simp only [over, overL, Nat.reduceAdd, h212, h214, h220]
          go_simp
          exact hK _ _ ⟨_, rfl, by simp only [over, overL, Nat.reduceAdd, h212, h214, h220]; rfl, Below.refl _ _⟩
        · intro f wz hb ⟨h212, h221, _⟩ K hK
          have h212 : f 212 = _ := h212
          have h221 : f 221 = _ := h221
          simp only [over, overL, Nat.reduceAdd, h212, h221]
          go_simp
          exact hK _ _ ⟨_, rfl, by simp only [over, overL, Nat.reduceAdd, h212, h221]; rfl, Below.refl _ _⟩
      intro f w9 hb9 hv
      have h222 : f 222 = .bool false := hv.2.2.2.2.2.2.2.2.2.2.2.2.2.2.2.2.2.2.2.2.2.2.2.2.2.2.2.2.2.2.2.2.2.2.2.2.2.2.2.2.2.2.2.2.2.2.2.2.2.2.2.2.2.2.2.2.2.2.2.2.2.2.2.2.2.2.2.1
      have HB9 : Hid (Below w5.heap.size w5 w9) := HB8.out.trans (hb9.mono HB8.out.size)
      clear hb9 hv k0 k1 k2 k3 k4 k5
      simp only [over_eq, overL, h222, Nat.reduceAdd]
      clear h222
      refine HKK2.out _ _ ?_
      go_wp2
      go_roundw
      case rel => exact ⟨k + 1, by omega, by go_num, HB9.out⟩
      case measure => simp [intOf]; omega

end Go.Proofs.YtmmpaaaifdikdaaGreatDoor
