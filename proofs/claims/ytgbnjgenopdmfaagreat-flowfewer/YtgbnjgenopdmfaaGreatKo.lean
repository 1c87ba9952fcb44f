import Derived.Test.YtgbnjgenopdmfaaGreatKn
import Derived.Lib.AppendZeros
import Derived.Test.YtgbnjgenopdmfaaGreatKh
import Derived.Test.YtgbnjgenopdmfaaGreatKm

/- slices.Grow, slices.Concat at actions walked. -/
namespace Go.Proofs.YtgbnjgenopdmfaaGreat
open Go.RowKit Go.Maps
set_option maxHeartbeats 3200000 in
set_option maxRecDepth 100000 in
theorem growA_any (n : Nat) (w : World) (hn : n ≤ 1000000) :
    Calls Tryz.prog 126 #[.slice none 0 0, .int .i64 (n : Int)] w fun e w' => ∃ v, e = .returned v ∧ OwnR encA w' w.heap.size v [] ∧ Below w.heap.size w w' := by
  have h0 : ¬ ((n : Int) < 0) := by omega
  by_cases hp : 0 < n
  · obtain ⟨i0, hi, hz0, hz1, hz2⟩ := info_parts infoA
    have hr : (Builtin.append_ #[23, 3] 23 #[.slice none 0 0, .int .i64 (n : Int)]).run Tryz.prog w = .ok (.slice (some ⟨w.heap.size, 0, none⟩) n (grownCap w n 0 55)) (w.drew.alloc (.cells (Builtin.zeroCells zAc.cells n ++ Builtin.zeroCells zAc.cells (grownCap w n 0 55 - n)) 55)) :=
      Lib.run_append_nil_zeros (P := Tryz.prog) w 23 3 23 55 i0 zAc .i64 .i64 Tryz.underlying23 Tryz.underlying3 hi hz0 n hp (by rw [hz1]; decide) (by omega) (by rw [hz2]; omega)
    have hge := grownCap_ge w n 0 55
    have hcm : grownCap w n 0 55 ≤ maxLen := grownCap_le_maxLen w n 0 55 (by unfold maxLen; omega)
    have HO : Hid (OwnR encA (w.drew.alloc (.cells (Builtin.zeroCells zAc.cells n ++ Builtin.zeroCells zAc.cells (grownCap w n 0 55 - n)) 55)) w.heap.size (.slice (some ⟨w.heap.size, 0, none⟩) 0 (grownCap w n 0 55)) []) := by
      refine ⟨rfl, .inr ⟨w.heap.size, _, _, rfl, Nat.le_refl _, heap_alloc_new w.drew _, Nat.zero_le _, hcm, ?_, rfl⟩⟩
      rw [Array.size_append, ← Array.length_toList, ← Array.length_toList, zeroA_len, zeroA_len]
      show n * 8 + _ = _ * 8
      omega
    have HB : Hid (Below w.heap.size w (w.drew.alloc (.cells (Builtin.zeroCells zAc.cells n ++ Builtin.zeroCells zAc.cells (grownCap w n 0 55 - n)) 55))) := ⟨rfl, rfl, rfl, by simp, fun k hk => heap_alloc_old w.drew _ hk⟩
    have hpi : (0 : Int) < (n : Int) := by omega
    generalize grownCap w n 0 55 = gc at *
    generalize w.drew.alloc (.cells (Builtin.zeroCells zAc.cells n ++ Builtin.zeroCells zAc.cells (gc - n)) 55) = W at *
    clear hi hz0 hz1 hz2
    go_enter Tryz.func126, Tryz.ntmps126
    go_wp2_with (at_builtin; refine Lib.wpList_append_run _ rfl _ _ _ _ rfl _ _ rfl rfl _ _ hr ?_)
    go_ret
    exact ⟨_, rfl, HO.out, HB.out⟩
  · obtain rfl : n = 0 := by omega
    go_enter Tryz.func126, Tryz.ntmps126
    go_wp2
    go_ret
    exact ⟨_, rfl, OwnR.nil _ _ _, Below.refl _ _⟩
/-- Slices of actions, one behind the other in a block. -/
abbrev Sl2 := Addr × Nat × List Acn
def catA (ls : List Sl2) : List Acn := ls.flatMap (·.2.2)
theorem catA_succ {ls : List Sl2} {k : Nat} (hk : k < ls.length) : catA (ls.take (k + 1)) = catA (ls.take k) ++ (ls[k]'hk).2.2 := by
  unfold catA
  rw [List.take_succ_eq_append_getElem hk, List.flatMap_append]
  simp
theorem catA_all (ls : List Sl2) : catA (ls.take ls.length) = catA ls := by rw [List.take_length]
set_option maxHeartbeats 400000 in
set_option maxRecDepth 100000 in
theorem concat_any (bb cp : Nat) (ls : List Sl2) (w : World) (hc : ∀ k (h : k < ls.length), w.cell? ⟨bb, k, none⟩ = some (.slice (some (ls[k]'h).1) (ls[k]'h).2.2.length (ls[k]'h).2.1)) (hr : ∀ s ∈ ls, RdR encA w (some s.1) s.2.2) (hl : ls.length ≤ 100) (hn : ∀ k, (catA (ls.take k)).length ≤ 1000000) :
    Calls Tryz.prog 87 #[.slice (some ⟨bb, 0, none⟩) ls.length cp] w fun e w' => ∃ v, e = .returned v ∧ OwnR encA w' w.heap.size v (catA ls) ∧ Below w.heap.size w w' := by
  have HC : Hid (∀ k (h : k < ls.length), w.cell? ⟨bb, k, none⟩ = some (.slice (some (ls[k]'h).1) (ls[k]'h).2.2.length (ls[k]'h).2.1)) := hc
  have HR : Hid (∀ s ∈ ls, RdR encA w (some s.1) s.2.2) := hr
  have HN : Hid (∀ k, (catA (ls.take k)).length ≤ 1000000) := hn
  clear hc hr hn
  go_enter Tryz.func87, Tryz.ntmps87
  go_wp2
  go_loopw [3, 11] (fun q3 q11 wr => ∃ k : Nat, k ≤ ls.length ∧ q3 = .int .i64 ((catA (ls.take k)).length : Int) ∧ q11 = .int .i64 k ∧ wr = w) (fun _ i _ => ls.length - (intOf i).toNat)
  case atStart => exact ⟨0, Nat.zero_le _, rfl, rfl, rfl⟩
  case round =>
    obtain ⟨k, hk, rfl, rfl, hw⟩ := hrel
    have hw2 := hw.symm
    clear hw
    subst hw2
    by_cases hlt : k < ls.length
    · have hki : (k : Int) < (ls.length : Int) := by omega
      have c0 := HC.out k hlt
      have hs := catA_succ hlt
      have hb1 := HN.out (k + 1)
      rw [hs, List.length_append] at hb1
      have HS : Hid ((catA (ls.take (k + 1))).length = (catA (ls.take k)).length + (ls[k]'hlt).2.2.length) := by show _ = _; rw [hs, List.length_append]
      generalize ls[k]'hlt = s at *
      generalize (catA (ls.take k)).length = m at *
      generalize s.2.2.length = q at *
      have hmq : ¬ ((m : Int) + (q : Int) < 0) := by omega
      have hmq2 : (m : Int) + (q : Int) ≤ 1000000 := by omega
      clear hs
      go_wp2
      go_roundw
      case rel => exact ⟨k + 1, by omega, by rw [HS.out]; go_num, by go_num, trivial⟩
      case measure => simp [intOf]; omega
    · have hki : ¬ (k : Int) < (ls.length : Int) := by omega
      obtain rfl : k = ls.length := by omega
      have hm0 := HN.out ls.length
      generalize hml : (catA (ls.take ls.length)).length = m at *
      have HG := (show Hid _ from growA_any m w hm0)
      clear hml
      go_wp2_with fail
      refine Calls.mono HG.out ?_
      rintro e w1 ⟨v, rfl, hov, hb1⟩
      obtain ⟨ao0, cap0, hv0⟩ := hov.shape
      have HO1 : Hid (OwnR encA w1 w.heap.size v []) := hov
      have HB1 : Hid (Below w.heap.size w w1) := hb1
      clear hov hb1 hki hv0
      go_wp2
      go_loopw [6, 27] (fun q6 q27 w2 => ∃ k : Nat, k ≤ ls.length ∧ q27 = .int .i64 k ∧ OwnR encA w2 w.heap.size q6 (catA (ls.take k)) ∧ Below w.heap.size w w2) (fun _ i _ => ls.length - (intOf i).toNat)
      case atStart => exact ⟨0, Nat.zero_le _, rfl, HO1.out, HB1.out⟩
      case round =>
        obtain ⟨k, hk, rfl, hov, hb2⟩ := hrel
        obtain ⟨aoV, capV, rfl⟩ := hov.shape
        have HO : Hid (OwnR encA wr w.heap.size (.slice aoV (catA (ls.take k)).length capV) (catA (ls.take k))) := hov
        have HB : Hid (Below w.heap.size w wr) := hb2
        clear hov hb2
        by_cases hlt : k < ls.length
        · have hki : (k : Int) < (ls.length : Int) := by omega
          have c0 := cell_later HB.out (HC.out k hlt)
          have HS : Hid (catA (ls.take (k + 1)) = catA (ls.take k) ++ (ls[k]'hlt).2.2) := catA_succ hlt
          have hb1 := HN.out (k + 1)
          rw [HS.out, List.length_append] at hb1
          have HRS : Hid (RdR encA wr (some (ls[k]'hlt).1) (ls[k]'hlt).2.2) := (HR.out _ (List.getElem_mem hlt)).next goodA HB.out
          generalize ls[k]'hlt = s at *
          have hsz := HB.out.size
          generalize hcl : catA (ls.take k) = pre at *
          clear hcl
          go_wp2_with (at_builtin; refine wpList_append_list goodA Tryz.underlying23 infoA rfl (by decide) _ rfl (.tmp 31) (.tmp 32) rfl w.heap.size _ pre rfl ?qc1 s.1 s.2.1 s.2.2 rfl ?qc2 ?qc5 ?qc3 ?qc4 ?_)
          case qc1 => exact HO.out
          case qc2 => exact HRS.out
          case qc3 => omega
          case qc4 => exact hsz
          case qc5 => simp [maxLen]; omega
          intro v' w1' ho hg _
          have hrow : ∀ q, (Value.slice aoV pre.length capV).ownBlock = some q → w.heap.size ≤ q := fun q hq => (World.ownsRow.lt HO.out q hq).1
          have HO2 : Hid (OwnR encA w1' w.heap.size v' (catA (ls.take (k + 1)))) := by show OwnR _ _ _ _ _; rw [HS.out]; exact ho
          have HB2 : Hid (Below w.heap.size w w1') := HB.out.grown hg hsz hrow
          clear ho hg hrow
          go_wp2
          go_roundw
          case rel => exact ⟨k + 1, by omega, by go_num, HO2.out, HB2.out⟩
          case measure => simp [intOf]; omega
        · have hki : ¬ (k : Int) < (ls.length : Int) := by omega
          obtain rfl : k = ls.length := by omega
          have HE : Hid (OwnR encA wr w.heap.size (.slice aoV (catA (ls.take ls.length)).length capV) (catA ls)) := by have h := HO.out; rw [catA_all] at h ⊢; exact h
          generalize (catA (ls.take ls.length)).length = m2 at *
          go_wp2
          go_ret
          exact ⟨_, rfl, HE.out, HB.out⟩
end Go.Proofs.YtgbnjgenopdmfaaGreat

/- Regions that draw their order: as SeqG, with a word that knows which operations are done. -/
namespace Go.Proofs.YtgbnjgenopdmfaaGreat
open Go.RowKit
def setD (dn : Nat → Bool) (i : Nat) : Nat → Bool := fun k => if k = i then true else dn k
theorem setD_same (dn : Nat → Bool) (i : Nat) : setD dn i i = true := if_pos rfl
theorem setD_other {dn : Nat → Bool} {i k : Nat} (h : k ≠ i) : setD dn i k = dn k := if_neg h
def dnOf (listed : Array Bool) : Nat → Bool := fun k => listed.getD k false
theorem dn_next {listed : Array Bool} {i : Nat} (h : i < listed.size) : dnOf (listed.setIfInBounds i true) = setD (dnOf listed) i := by
  funext k
  unfold dnOf setD
  simp only [Array.getD_eq_getD_getElem?, Array.getElem?_setIfInBounds]
  by_cases e : k = i
  · subst e; simp [h]
  · rw [if_neg (fun e2 => e e2.symm), if_neg e]
section
variable (P : Program) (Q : Exit → Act → World → Prop) (a : Act) (m : List Bool) (plan : GPlan) (V : Nat → List Value → World → Prop) (J : (Nat → Bool) → (Nat → Value) → World → Prop) (w0 : World)
/-- What an operation must do, in whatever world it comes up. -/
def DoesK (i : Nat) (o : Oper) (dn : Nat → Bool) (f : Nat → Value) (w : World) : Prop :=
  ∀ K : Act → World → Prop, (∀ a' w', (∃ v, a' = (over a m f).put o.dst v ∧ V i ((menOf plan i).map (updO f o.dst v)) w' ∧ Below w0.heap.size w0 w' ∧ J (setD dn i) (updO f o.dst v) w' ∧ (∀ j, V j ((menOf plan j).map f) w → V j ((menOf plan j).map f) w')) → K a' w') → o.wp P (over a m f) w K Q
def OblK (i : Nat) (o : Oper) (p : List Nat × List Nat × Option (Nat × Bool)) : Prop :=
  ∀ dn f w, dn i = false → (∀ j ∈ p.1, dn j = true) → Below w0.heap.size w0 w → J dn f w → AllJ plan V f w p.1 → match p.2.2 with
    | none => DoesK P Q a m plan V J w0 i o dn f w
    | some (s, b) => (f s = .bool b → DoesK P Q a m plan V J w0 i o dn f w) ∧ (f s ≠ .bool b → V i ((menOf plan i).map (updO f o.dst undef)) w ∧ J (setD dn i) (updO f o.dst undef) w)
def OblsK : Nat → List Oper → GPlan → Prop
  | i, o :: l, p :: q => OblK P Q a m plan V J w0 i o p ∧ OblsK (i + 1) l q
  | _, _, _ => True
end
section
variable {P : Program} {Q : Exit → Act → World → Prop} {a : Act} {m : List Bool} {plan : GPlan} {V : Nat → List Value → World → Prop} {J : (Nat → Bool) → (Nat → Value) → World → Prop} {w0 : World} {ops : Array Oper}
theorem oblsK_at : ∀ {l : List Oper} {q : GPlan} {s : Nat}, OblsK P Q a m plan V J w0 s l q → ∀ {i : Nat} {o : Oper} {p}, l[i]? = some o → q[i]? = some p → OblK P Q a m plan V J w0 (s + i) o p
  | [], _, _, _, _, _, _, h, _ => by simp at h
  | _ :: _, [], _, _, _, _, _, _, h => by simp at h
  | o :: l, p :: q, s, h, 0, _, _, ho, hp => by simp at ho hp; subst ho; subst hp; exact h.1
  | o :: l, p :: q, s, h, i + 1, _, _, ho, hp => by
    have := oblsK_at h.2 (i := i) (by simpa using ho) (by simpa using hp)
    rw [show s + 1 + i = s + (i + 1) by omega] at this
    exact this
/-- What holds while the region goes on. -/
def InvK (a : Act) (m : List Bool) (plan : GPlan) (V : Nat → List Value → World → Prop) (J : (Nat → Bool) → (Nat → Value) → World → Prop) (w0 : World) (ops : Array Oper) (listed : Array Bool) (a' : Act) (w : World) : Prop :=
  Closed ops listed ∧ ∃ f, a' = over a m f ∧ Below w0.heap.size w0 w ∧ J (dnOf listed) f w ∧ ∀ i, listed[i]? = some true → V i ((menOf plan i).map f) w

theorem invK_step (hok : gOk ops plan m a.tmps.size = true) (hob : OblsK P Q a m plan V J w0 0 ops.toList plan)
    {listed : Array Bool} (hsz : listed.size = ops.size) {i : Nat} (hi : i ∈ Region.ready .any ops listed) {a' : Act} {w : World} (h : InvK a m plan V J w0 ops listed a' w) :
    wpOp P ops Q i (fun a2 w2 => InvK a m plan V J w0 ops (listed.setIfInBounds i true) a2 w2) a' w := by
  simp only [gOk, Bool.and_eq_true] at hok
  obtain ⟨⟨_, hall⟩, hmen⟩ := hok
  obtain ⟨hlt, hun, hpre⟩ := ready_pre hi
  obtain ⟨o, ho⟩ : ∃ o, ops[i]? = some o := ⟨ops[i], by simp [hlt]⟩
  have hpre := hpre o ho
  have hoL : ops.toList[i]? = some o := by simpa using ho
  obtain ⟨p, hp, h1⟩ := gAll_at hall hoL
  have hO := oblsK_at hob hoL hp
  rw [Nat.zero_add] at hO
  simp only [gOne, Bool.and_eq_true] at h1
  obtain ⟨⟨hd, hps⟩, hg⟩ := h1
  obtain ⟨hcl, f, rfl, hb, hJ, hV⟩ := h
  have hav : ∀ l : List Nat, (∀ j ∈ l, j ∈ p.1) → AllJ plan V f w l := by
    intro l
    induction l with
    | nil => intro _; trivial
    | cons j l ih =>
      intro hl
      refine ⟨?_, ih fun x hx => hl x (by simp [hx])⟩
      have h2 := List.all_eq_true.1 hps j (hl j (by simp))
      obtain ⟨e, he, h3⟩ := Array.any_eq_true'.1 h2
      simp only [Bool.and_eq_true, beq_iff_eq] at h3
      have := hpre e he h3.1
      rw [h3.2] at this
      exact hV j this
  have hav := hav p.1 fun _ h => h
  have hlis : ∀ j ∈ p.1, dnOf listed j = true := by
    intro j hj
    have h2 := List.all_eq_true.1 hps j hj
    obtain ⟨e, he, h3⟩ := Array.any_eq_true'.1 h2
    simp only [Bool.and_eq_true, beq_iff_eq] at h3
    have := hpre e he h3.1
    rw [h3.2] at this
    unfold dnOf
    rw [Array.getD_eq_getD_getElem?, this]
    rfl
  have hnl : listed[i]? ≠ some true := by
    intro e
    rw [Array.getD_eq_getD_getElem?, e] at hun
    simp at hun
  have hput : ∀ v, (over a m f).put o.dst v = over a m (updO f o.dst v) := by
    intro v
    cases e : o.dst with
    | none => rfl
    | some d =>
      rw [e] at hd
      simp only [Bool.and_eq_true] at hd
      exact over_put a m f d v (getD_true hd.1)
  have hsame : ∀ (j : Nat) (v : Value), listed[j]? = some true → (menOf plan j).map (updO f o.dst v) = (menOf plan j).map f := by
    intro j v hj
    apply List.map_congr_left
    intro s hs
    apply updO_other
    intro e
    have hjs : j < ops.size := by
      by_cases h : j < ops.size
      · exact h
      · rw [Array.getElem?_eq_none (by omega)] at hj; cases hj
    unfold menB at hmen
    have h1 := List.all_eq_true.1 (List.all_eq_true.1 hmen j (by simpa using hjs)) i (by simpa using hlt)
    simp only [Bool.or_eq_true, beq_iff_eq] at h1
    rcases h1 with (h1 | h1) | h1
    · subst h1; exact hnl hj
    · exact hnl (covers_listed hcl _ j i (fun o' ho' => hcl j o' ho' hj) h1)
    · have := List.all_eq_true.1 h1 s hs
      rw [ho] at this
      simp [e] at this
  have hcl2 := closed_next hcl hi
  have hfin : ∀ v w2, V i ((menOf plan i).map (updO f o.dst v)) w2 → Below w0.heap.size w0 w2 → J (setD (dnOf listed) i) (updO f o.dst v) w2 → (∀ j, V j ((menOf plan j).map f) w → V j ((menOf plan j).map f) w2) → InvK a m plan V J w0 ops (listed.setIfInBounds i true) ((over a m f).put o.dst v) w2 := by
    intro v w2 hv hb2 hj2 hk
    refine ⟨hcl2, updO f o.dst v, hput v, hb2, by rw [dn_next (by omega)]; exact hj2, fun j hlj => ?_⟩
    by_cases e : j = i
    · subst e; exact hv
    · have hlj2 : listed[j]? = some true := by simpa [Array.getElem?_setIfInBounds, Ne.symm e] using hlj
      rw [hsame j v hlj2]
      exact hk j (hV j hlj2)
  have hDoes : DoesK P Q a m plan V J w0 i o (dnOf listed) f w → o.wp P (over a m f) w (fun a2 w2 => InvK a m plan V J w0 ops (listed.setIfInBounds i true) a2 w2) Q := fun hD =>
    hD _ fun a2 w2 ⟨v, ha, hv, hb2, hj2, hk⟩ => by subst ha; exact hfin v w2 hv hb2 hj2 hk
  have hdn : dnOf listed i = false := by
    have h5 : i < listed.size := by omega
    rw [Array.getD_eq_getD_getElem?, Array.getElem?_eq_getElem h5] at hun
    unfold dnOf
    rw [Array.getD_eq_getD_getElem?, Array.getElem?_eq_getElem h5]
    exact hun
  have hO := hO (dnOf listed) f w hdn hlis hb hJ hav
  unfold wpOp
  rw [ho]
  simp only
  cases hgo : o.guard with
  | none =>
    rw [hgo] at hg
    have hw : Region.wanted o (yielded ops (over a m f).tmps) = true := by simp [Region.wanted, hgo]
    rw [if_pos hw]
    cases hp2 : p.2.2 with
    | none => rw [hp2] at hO; exact .inl (hDoes hO)
    | some x => rw [hp2] at hg; simp at hg
  | some jb =>
    obtain ⟨j, b⟩ := jb
    rw [hgo] at hg
    cases hp2 : p.2.2 with
    | none => rw [hp2] at hg; simp at hg
    | some sb =>
      obtain ⟨s, b'⟩ := sb
      rw [hp2] at hg hO
      simp only [Bool.and_eq_true] at hg
      obtain ⟨⟨⟨hs, hbb⟩, hms⟩, hsn⟩ := hg
      have hbb : b = b' := by simpa using hbb
      subst hbb
      have hs : (ops[j]?).bind (·.dst) = some s := by simpa using hs
      have hgs : (over a m f).tmps[s]? = some (f s) := by
        have := overL_at f m 0 s a.tmps.toList (getD_true hms) (by simpa using hsn)
        simpa [over] using this
      have hy : yielded ops (over a m f).tmps j = match f s with | .bool x => some x | _ => none := by
        unfold yielded
        rw [hs]
        simp only [Option.bind_some, hgs]
        cases f s <;> rfl
      by_cases hw : f s = .bool b
      · have : Region.wanted o (yielded ops (over a m f).tmps) = true := by simp [Region.wanted, hgo, hy, hw]
        rw [if_pos this]
        exact .inl (hDoes (hO.1 hw))
      · have : ¬ Region.wanted o (yielded ops (over a m f).tmps) = true := by
          simp only [Region.wanted, hgo, hy, beq_iff_eq]
          cases e : f s <;> simp
          rename_i x
          intro e2; subst e2; exact hw e
        rw [if_neg this]
        exact hfin _ _ (hO.2 hw).1 hb (hO.2 hw).2 fun _ h => h

theorem anyK (hok : gOk ops plan m a.tmps.size = true) (hob : OblsK P Q a m plan V J w0 0 ops.toList plan)
    (hdone : ∀ dn f w, (∀ i, i < ops.size → dn i = true) → Below w0.heap.size w0 w → J dn f w → AllG V f w 0 plan → Q .normal (over a m f) w) :
    ∀ (fuel : Nat) (listed : Array Bool) (a' : Act) (w : World), listed.size = ops.size → listed.toList.count false ≤ fuel → InvK a m plan V J w0 ops listed a' w → wpAny P .any ops Q fuel listed a' w := by
  have hok2 := hok
  simp only [gOk, Bool.and_eq_true] at hok2
  obtain ⟨⟨hback, hall⟩, _⟩ := hok2
  have hlen := gAll_length hall
  have hend : ∀ (listed : Array Bool) (a' : Act) (w : World), listed.size = ops.size → InvK a m plan V J w0 ops listed a' w → Region.ready .any ops listed = [] → Q .normal a' w := by
    rintro listed a' w hsz ⟨_, f, rfl, hb, hJ, hV⟩ hr
    refine hdone (dnOf listed) f w (fun i hi => ?_) hb hJ (allG_of fun i p hp => ?_)
    · have := all_listedE hback hsz hr i hi
      unfold dnOf
      rw [Array.getD_eq_getD_getElem?, this]
      rfl
    have hi : i < plan.length := (List.getElem?_eq_some_iff.1 hp).1
    have := hV i (all_listedE hback hsz hr i (by simp at hlen; omega))
    rw [Nat.zero_add]
    unfold menOf at this
    rw [hp] at this
    exact this
  intro fuel
  induction fuel with
  | zero =>
    intro listed a' w hsz hc hI
    have hr : Region.ready .any ops listed = [] := by
      rw [List.eq_nil_iff_forall_not_mem]
      intro i hi
      obtain ⟨hlt, h1, _⟩ := ready_pre hi
      have h0 : listed.toList.count false = 0 := by omega
      rw [List.count_eq_zero] at h0
      have hlt2 : i < listed.size := by omega
      simp only [Array.getD_eq_getD_getElem?, Array.getElem?_eq_getElem hlt2, Option.getD_some] at h1
      exact h0 (by rw [← h1]; simp)
    exact ⟨hr, hend listed a' w hsz hI hr⟩
  | succ fuel ih =>
    intro listed a' w hsz hc hI
    refine ⟨hend listed a' w hsz hI, fun i hi => wpOp_mono (fun a2 w2 h2 => ih _ _ _ (by simpa using hsz) ?_ h2) (invK_step hok hob hsz hi hI)⟩
    obtain ⟨hlt, h1, _⟩ := ready_pre hi
    have hlt2 : i < listed.size := by omega
    simp only [Array.getD_eq_getD_getElem?, Array.getElem?_eq_getElem hlt2, Option.getD_some] at h1
    have hl : i < listed.toList.length := by simpa using hlt2
    have h2 : listed.toList[i] = false := by simpa using h1
    rw [Array.toList_setIfInBounds, List.count_set hl, h2]
    have hp : 0 < listed.toList.count false := List.count_pos_iff.2 (by rw [← h2]; exact List.getElem_mem _)
    rw [if_pos (by rfl), if_neg (by decide)]
    omega

/-- A region that draws its order, stores wherever they stand: whatever the order is, each operation does what it must. -/
theorem region_done {id : Nat} (m : List Bool) (plan : GPlan) (V : Nat → List Value → World → Prop) (J : (Nat → Bool) → (Nat → Value) → World → Prop) (hmix : P.follows .mixedOrders = true) (hok : gOk ops plan m a.tmps.size = true)
    (hJ0 : ∀ dn f w, (∀ i, dn i = false) → Below w0.heap.size w0 w → J dn f w) (hob : OblsK P Q a m plan V J w0 0 ops.toList plan)
    (hdone : ∀ dn f w, (∀ i, i < ops.size → dn i = true) → Below w0.heap.size w0 w → J dn f w → AllG V f w 0 plan → Q .normal (over a m f) w) : (Code.region id ops true).wp P Q a w0 := by
  refine wp_region_any hmix (anyK hok hob hdone _ _ _ _ (by simp) (by simp) ⟨?_, fun k => (a.tmps.toList[k]?).getD undef, (over_start a m).symm, ⟨rfl, rfl, rfl, Nat.le_refl _, fun _ _ => rfl⟩, hJ0 _ _ _ (fun i => by unfold dnOf; rw [Array.getD_eq_getD_getElem?, Array.getElem?_replicate]; split <;> rfl) ⟨rfl, rfl, rfl, Nat.le_refl _, fun _ _ => rfl⟩, ?_⟩)
  · intro i o _ h
    simp [Array.getElem?_replicate] at h
  · intro i h
    simp [Array.getElem?_replicate] at h
end
end Go.Proofs.YtgbnjgenopdmfaaGreat

/- flow's do walked. -/
namespace Go.Proofs.YtgbnjgenopdmfaaGreat
open Go.RowKit Go.Maps
/-- What lies of a state in memory lies not in block B. -/
structure SmOff (B : Nat) (t : Sm) : Prop where
  row : t.wl = [] ∨ ∀ a, t.aoW = some a → a.block ≠ B
  fl : ∀ x ∈ t.wl, x.2.2.2 = [] ∨ ∀ a, x.2.1 = some a → a.block ≠ B
  held : t.held = [] ∨ ∀ a, t.aoH = some a → a.block ≠ B
  touched : t.touched = [] ∨ ∀ a, t.aoT = some a → a.block ≠ B
theorem SmHi.off {n B : Nat} {t : Sm} (h : SmHi n t) (hB : B < n) : SmOff B t :=
  ⟨h.row.imp id fun h a ha => by have := h a ha; omega, fun x hx => (h.fl x hx).imp id fun h a ha => by have := h a ha; omega, h.held.imp id fun h a ha => by have := h a ha; omega, h.touched.imp id fun h a ha => by have := h a ha; omega⟩
theorem whs_lt {w : World} {ao : Option Addr} {l : List Wh} (h : Whs w ao l) : l = [] ∨ ∀ a, ao = some a → a.block < w.heap.size := by
  by_cases hn : l = []
  · exact .inl hn
  · refine .inr fun a ha => ?_
    obtain ⟨b, off, e, hw⟩ := h.at (List.length_pos_iff.2 hn)
    rw [e] at ha
    injection ha with ha
    rw [← ha]
    exact hw.lt
theorem SmIn.off {w : World} {t : Sm} (h : SmIn w t) {B : Nat} (hB : w.heap.size ≤ B) : SmOff B t :=
  ⟨(whs_lt h.wells).imp id fun h a ha => by have := h a ha; omega, fun x hx => by
    obtain ⟨k, hk, rfl⟩ := List.getElem_of_mem hx
    obtain ⟨_, _, _, hw⟩ := h.wells.at hk
    exact (fl_lt hw.fl).imp id fun h a ha => by have := h a ha; omega, (fl_lt h.held).imp id fun h a ha => by have := h a ha; omega, (tx_lt h.touched).imp id fun h a ha => by have := h a ha; omega⟩
theorem SmIn.but' {B : Nat} {w w1 : World} {t : Sm} (h : SmIn w t) (hi : SmOff B t) (hbut : But B B w w1) : SmIn w1 t := by
  have two : ∀ {α : Type} {ps : List α} {ao : Option Addr}, (ps = [] ∨ ∀ a, ao = some a → a.block ≠ B) → (ps = [] ∨ ∀ a, ao = some a → a.block ≠ B ∧ a.block ≠ B) := fun h => h.imp id fun h a ha => ⟨h a ha, h a ha⟩
  refine ⟨?_, (Flx.but ⟨h.held, two hi.held⟩ hbut).1, (Txx.but ⟨h.touched, two hi.touched⟩ hbut).1⟩
  rcases h.wells with e | ⟨g, off, e, hc⟩
  · exact .inl e
  · rcases hi.row with e2 | hr
    · exact .inl e2
    · have hg := hr _ e
      refine .inr ⟨g, off, e, fun k hk => ?_⟩
      obtain ⟨h0, h1, h2, h3, h4, h5⟩ := hc k hk
      have hbl := hbut.block g h0 hg hg
      exact ⟨Nat.lt_of_lt_of_le h0 hbut.size, (World.cell?_of_block (w := w) hbl).trans h1, (World.cell?_of_block (w := w) hbl).trans h2, (World.cell?_of_block (w := w) hbl).trans h3, (World.cell?_of_block (w := w) hbl).trans h4, (Flx.but ⟨h5, two (hi.fl _ (List.getElem_mem hk))⟩ hbut).1⟩
theorem Acs.but {b m : Nat} {w w1 : World} {ao : Option Addr} {acs : List Acn} (h : Acs w ao acs) (ha : ∀ a, ao = some a → a.block ≠ b ∧ a.block ≠ m) (hb : But b m w w1) : Acs w1 ao acs := ⟨h.rd.but ha hb, h.ok⟩
/-- What is so while the state is shown and the action applied, in whatever order the region goes. -/
def doJ (n : Nat) (st0 st1 : Sta) (e1 : Int) (dn : Nat → Bool) (f : Nat → Value) (w : World) : Prop :=
  (dn 9 = false → dn 7 = true → ∃ t : Sm, f 23 = smv t ∧ t.st = st0 ∧ SmIn w t) ∧
  (dn 9 = true → ∃ t : Sm, f 25 = .tuple #[smv t, .int .i64 e1] ∧ t.st = st1 ∧ SmIn w t ∧ SmHi n t ∧ (dn 13 = true → ∀ B, f 7 = ptr B → SmOff B t)) ∧
  (dn 13 = true → ∃ B, f 7 = ptr B ∧ n ≤ B ∧ B < w.heap.size ∧ ∃ u0 u1 u2 u3 u4 u5 u6, Bk B [u0, u1, u2, u3, u4, u5, u6] w) ∧
  (dn 14 = true → dn 9 = true ∧ dn 13 = true ∧ ∃ B, ∃ t : Sm, f 7 = ptr B ∧ f 25 = .tuple #[smv t, .int .i64 e1] ∧ Bk B (sml t) w)
theorem doJ.same {n : Nat} {st0 st1 : Sta} {e1 : Int} {dn : Nat → Bool} {f g : Nat → Value} {w w2 : World} {i : Nat} (h : doJ n st0 st1 e1 dn f w) (hi : i ≠ 7 ∧ i ≠ 9 ∧ i ≠ 13 ∧ i ≠ 14) (hg : g 7 = f 7 ∧ g 23 = f 23 ∧ g 25 = f 25) (hb : Below w.heap.size w w2) : doJ n st0 st1 e1 (setD dn i) g w2 := by
  obtain ⟨h1, h2, h3, h4⟩ := h
  unfold doJ
  rw [setD_other (Ne.symm hi.1), setD_other (Ne.symm hi.2.1), setD_other (Ne.symm hi.2.2.1), setD_other (Ne.symm hi.2.2.2), hg.1, hg.2.1, hg.2.2]
  refine ⟨fun a b => ?_, fun a => ?_, fun a => ?_, fun a => ?_⟩
  · obtain ⟨t, u1, u2, u3⟩ := h1 a b; exact ⟨t, u1, u2, u3.next hb⟩
  · obtain ⟨t, u1, u2, u3, u4, u5⟩ := h2 a; exact ⟨t, u1, u2, u3.next hb, u4, u5⟩
  · obtain ⟨B, u1, u2, u3, v0, v1, v2, v3, v4, v5, v6, u4⟩ := h3 a; exact ⟨B, u1, u2, Nat.lt_of_lt_of_le u3 hb.size, v0, v1, v2, v3, v4, v5, v6, u4.later hb⟩
  · obtain ⟨x, y, B, t, u1, u2, u3⟩ := h4 a; exact ⟨x, y, B, t, u1, u2, u3.later hb⟩
theorem doJ.shown {n : Nat} {st0 st1 : Sta} {e1 : Int} {dn : Nat → Bool} {f g : Nat → Value} {w w2 : World} {t : Sm} (h : doJ n st0 st1 e1 dn f w) (hg : g 7 = f 7 ∧ g 23 = smv t ∧ g 25 = f 25) (hs : t.st = st0) (hin : SmIn w2 t) (hb : Below w.heap.size w w2) : doJ n st0 st1 e1 (setD dn 7) g w2 := by
  obtain ⟨h1, h2, h3, h4⟩ := h
  unfold doJ
  rw [setD_other (show 9 ≠ 7 by decide), setD_other (show 13 ≠ 7 by decide), setD_other (show 14 ≠ 7 by decide), hg.1, hg.2.1, hg.2.2]
  refine ⟨fun _ _ => ⟨t, rfl, hs, hin⟩, fun a => ?_, fun a => ?_, fun a => ?_⟩
  · obtain ⟨t, u1, u2, u3, u4, u5⟩ := h2 a; exact ⟨t, u1, u2, u3.next hb, u4, u5⟩
  · obtain ⟨B, u1, u2, u3, v0, v1, v2, v3, v4, v5, v6, u4⟩ := h3 a; exact ⟨B, u1, u2, Nat.lt_of_lt_of_le u3 hb.size, v0, v1, v2, v3, v4, v5, v6, u4.later hb⟩
  · obtain ⟨x, y, B, t, u1, u2, u3⟩ := h4 a; exact ⟨x, y, B, t, u1, u2, u3.later hb⟩
theorem doJ.apply {n : Nat} {st0 st1 : Sta} {e1 : Int} {dn : Nat → Bool} {f g : Nat → Value} {w w2 : World} {t : Sm} (h : doJ n st0 st1 e1 dn f w) (h9 : dn 9 = false) (hg : g 7 = f 7 ∧ g 25 = .tuple #[smv t, .int .i64 e1]) (hs : t.st = st1) (hin : SmIn w2 t) (hhi : SmHi w.heap.size t) (hn : n ≤ w.heap.size) (hb : Below w.heap.size w w2) : doJ n st0 st1 e1 (setD dn 9) g w2 := by
  obtain ⟨h1, h2, h3, h4⟩ := h
  unfold doJ
  rw [setD_same, setD_other (show 13 ≠ 9 by decide), setD_other (show 14 ≠ 9 by decide), hg.1, hg.2]
  refine ⟨fun a => (by cases a), fun _ => ⟨t, rfl, hs, hin, hhi.less hn, fun a B hB => ?_⟩, fun a => ?_, fun a => ?_⟩
  · obtain ⟨B', u1, _, u3, _⟩ := h3 a
    rw [u1] at hB
    injection hB with hB
    injection hB with hB
    injection hB with hB
    exact hhi.off (by omega)
  · obtain ⟨B, u1, u2, u3, v0, v1, v2, v3, v4, v5, v6, u4⟩ := h3 a; exact ⟨B, u1, u2, Nat.lt_of_lt_of_le u3 hb.size, v0, v1, v2, v3, v4, v5, v6, u4.later hb⟩
  · obtain ⟨x, _⟩ := h4 a; rw [h9] at x; cases x
theorem doJ.alloc {n : Nat} {st0 st1 : Sta} {e1 : Int} {dn : Nat → Bool} {f g : Nat → Value} {w : World} (h : doJ n st0 st1 e1 dn f w) (h13 : dn 13 = false) (hg : g 7 = ptr w.heap.size ∧ g 23 = f 23 ∧ g 25 = f 25) (hn : n ≤ w.heap.size) : doJ n st0 st1 e1 (setD dn 13) g (w.alloc (.cells z7.toArray 40)) := by
  obtain ⟨h1, h2, h3, h4⟩ := h
  have hb : Below w.heap.size w (w.alloc (.cells z7.toArray 40)) := (Below.refl _ _).alloc (Nat.le_refl _) _
  unfold doJ
  rw [setD_same, setD_other (show 9 ≠ 13 by decide), setD_other (show 7 ≠ 13 by decide), setD_other (show 14 ≠ 13 by decide), hg.1, hg.2.1, hg.2.2]
  refine ⟨fun a b => ?_, fun a => ?_, fun a => ?_, fun a => ?_⟩
  · obtain ⟨t, u1, u2, u3⟩ := h1 a b; exact ⟨t, u1, u2, u3.next hb⟩
  · obtain ⟨t, u1, u2, u3, u4, _⟩ := h2 a
    refine ⟨t, u1, u2, u3.next hb, u4, fun _ B hB => ?_⟩
    injection hB with hB
    injection hB with hB
    injection hB with hB
    exact u3.off (by omega)
  · exact ⟨w.heap.size, rfl, hn, by simp, _, _, _, _, _, _, _, Bk.new w z7 40 w.heap.size rfl⟩
  · obtain ⟨_, x, _⟩ := h4 a; rw [h13] at x; cases x
theorem doJ.store {n : Nat} {st0 st1 : Sta} {e1 : Int} {dn : Nat → Bool} {f : Nat → Value} {w : World} {B : Nat} {t : Sm} {u0 u1 u2 u3 u4 u5 u6 : Value} (h : doJ n st0 st1 e1 dn f w) (h9 : dn 9 = true) (h13 : dn 13 = true) (hf : f 7 = ptr B ∧ f 25 = .tuple #[smv t, .int .i64 e1]) (hB : n ≤ B) (hK : Bk B [u0, u1, u2, u3, u4, u5, u6] w) : doJ n st0 st1 e1 (setD dn 14) f (put7 w B t) := by
  obtain ⟨h1, h2, h3, h4⟩ := h
  have hlt : B < (put7 w B t).heap.size := by simpa [World.setCell] using hK.1
  have K7 : Bk B (sml t) (put7 w B t) := ((((((hK.put 0 (.slice t.aoW t.wl.length t.capW)).put 1 (.bool t.tip)).put 2 (.slice t.aoH t.held.length t.capH)).put 3 (.slice t.aoT t.touched.length t.capT)).put 4 (.int .i64 t.used)).put 5 (.int .i64 t.heat)).put 6 (.int .i64 t.clock)
  unfold doJ
  rw [setD_same, setD_other (show 9 ≠ 14 by decide), setD_other (show 7 ≠ 14 by decide), setD_other (show 13 ≠ 14 by decide), hf.1, hf.2]
  refine ⟨fun a => (by rw [h9] at a; cases a), fun a => ?_, fun _ => ⟨B, rfl, hB, hlt, _, _, _, _, _, _, _, K7⟩, fun _ => ⟨h9, h13, B, t, rfl, rfl, K7⟩⟩
  obtain ⟨t2, u1, u2, u3, u4, u5⟩ := h2 a
  have u6 := u5 h13 B hf.1
  refine ⟨t2, by rw [← u1, hf.2], u2, u3.but' u6 (but_put7 B w t), u4, fun _ B2 hB2 => ?_⟩
  injection hB2 with hB2
  injection hB2 with hB2
  injection hB2 with hB2
  rw [← hB2]
  exact u6
set_option linter.unusedVariables false in
def dfV (b A nl cap : Nat) (ao : Option Addr) (a : Acn) (e1 : Int) (i : Nat) (l : List Value) (w : World) : Prop :=
  match i, l with
  | 0, [v] => v = .pointer (some ⟨b, 0, none⟩)
  | 1, [v] => v = .pointer (some ⟨b, 0, none⟩)
  | 2, [v] => v = .pointer (some ⟨b, 0, none⟩)
  | 3, [v] => v = .slice ao nl cap
  | 4, [v] => v = .pointer (some ⟨b, 0, none⟩)
  | 5, [v] => v = .pointer (some ⟨A, 1, none⟩)
  | 6, [v] => v = .agg #[.int .i64 a.pl.1, .int .i64 a.pl.2.1, .int .i64 a.pl.2.2]
  | 7, [_] => True
  | 8, [v] => v = .agg #[.int .i64 a.kind, .int .i64 a.pl.1, .int .i64 a.pl.2.1, .int .i64 a.pl.2.2, .string a.label, .int .i64 a.vol, .int .i64 a.value, .int .i64 a.time]
  | 9, [_] => True
  | 10, [u, v] => v = u ∧ ∃ t : Sm, u = .tuple #[smv t, .int .i64 e1]
  | 11, [u, v] => ∃ t : Sm, u = .tuple #[smv t, .int .i64 e1] ∧ v = smv t
  | 12, [v] => v = .int .i64 e1
  | 13, [_] => True
  | 15, [v] => v = .int .i64 e1
  | _, _ => True
set_option linter.unusedVariables false in
theorem dfV_mono (b A nl cap : Nat) (ao : Option Addr) (a : Acn) (e1 : Int) (i : Nat) (l : List Value) (w w' : World) (h : dfV b A nl cap ao a e1 i l w) (hb : Below w.heap.size w w') : dfV b A nl cap ao a e1 i l w' := by
  unfold dfV at h ⊢
  split <;> simp only [] at h <;> first | exact h
set_option linter.unusedVariables false in
theorem dfV_free (b A nl cap : Nat) (ao : Option Addr) (a : Acn) (e1 : Int) (i : Nat) (l : List Value) (w w' : World) (h : dfV b A nl cap ao a e1 i l w) : dfV b A nl cap ao a e1 i l w' := h
set_option maxHeartbeats 6400000 in
set_option maxRecDepth 100000 in
theorem doF_any (X : Nat → Prop) (wB w : World) (ao : Option Addr) (cap : Nat) (l : List Sit) (b m : Nat) (s : Sta) (aoA : Option Addr) (capA : Nat) (acs : List Acn) (h : Fb X wB w ao cap l b m s) (hA : Acs w aoA acs) (hW : ∀ a ∈ acs, Wf3 a.pl) (hAX : ∀ a, aoA = some a → a.block ≠ b ∧ a.block ≠ m) (hla : acs.length ≤ 1000000000) :
    Calls Tryz.prog 48 #[ptr b, .slice aoA acs.length capA] w fun e w' => ∃ c s', e = .returned (.int .i64 c) ∧ Fb X wB w' ao cap l b m s' ∧ But b m w w' ∧ ((runO l acs s = some s' ∧ c = 0) ∨ (runO l acs s = none ∧ c ≠ 0)) := by
  have HFB : Hid (Fb X wB w ao cap l b m s) := h
  have HA : Hid (Acs w aoA acs) := hA
  have HW : Hid (∀ a ∈ acs, Wf3 a.pl) := hW
  have HAX : Hid (∀ a, aoA = some a → a.block ≠ b ∧ a.block ≠ m) := hAX
  clear h hA hW hAX
  go_enter Tryz.func48, Tryz.ntmps48
  go_wp2
  go_loopw [11] (fun q11 wr => ∃ (k : Nat) (s1 : Sta), k ≤ acs.length ∧ q11 = .int .i64 k ∧ Fb X wB wr ao cap l b m s1 ∧ But b m w wr ∧ runO l acs s = runO l (acs.drop k) s1) (fun i _ => acs.length - (intOf i).toNat)
  case atStart => exact ⟨0, s, Nat.zero_le _, rfl, HFB.out, but_below (Below.refl _ _), rfl⟩
  case round =>
    obtain ⟨k, s1, hk, rfl, hf1, hbu, hru⟩ := hrel
    have HF1 : Hid (Fb X wB wr ao cap l b m s1) := hf1
    have HBU : Hid (But b m w wr) := hbu
    have HRU : Hid (runO l acs s = runO l (acs.drop k) s1) := hru
    clear hf1 hbu hru
    by_cases hlt : k < acs.length
    · have hki : (k : Int) < (acs.length : Int) := by omega
      obtain ⟨g, off, rfl, hc⟩ := (HA.out.but HAX.out HBU.out).at hlt
      have HDR : Hid (runO l acs s = (stp l (acs[k]'hlt) s1).bind (runO l (acs.drop (k + 1)))) := by show _ = _; rw [HRU.out, List.drop_eq_getElem_cons hlt]; rfl
      have HAO : Hid ((acs[k]'hlt).label.size ≤ maxLen ∧ (Lit.int .i64 (acs[k]'hlt).kind).wf = true) := HA.out.ok _ (List.getElem_mem hlt)
      have HWA : Hid (Wf3 (acs[k]'hlt).pl) := HW.out _ (List.getElem_mem hlt)
      generalize acs[k]'hlt = a at *
      have c0 := hc 0 (by decide)
      have c1 := hc 1 (by decide)
      have c2 := hc 2 (by decide)
      have c3 := hc 3 (by decide)
      have c4 := hc 4 (by decide)
      have c5 := hc 5 (by decide)
      have c6 := hc 6 (by decide)
      have c7 := hc 7 (by decide)
      simp only [acl, List.getElem?_cons_zero, List.getElem?_cons_succ, Nat.add_zero] at c0 c1 c2 c3 c4 c5 c6 c7
      clear hc
      obtain ⟨⟨st1, e1⟩, hap⟩ : ∃ x, applyR l (shw s1 a.pl) a = x := ⟨_, rfl⟩
      have HAP : Hid (applyR l (shw s1 a.pl) a = (st1, e1)) := hap
      have HCS := (show Hid _ from apply_shw (a := a) HF1.out.hd HF1.out.may)
      have HSL : Hid (∀ t : Sm, t.st = shw s1 a.pl → SmLen t) := fun t e => (may_smlen HF1.out.hd (by rw [e]; exact shw_may HF1.out.may a.pl)).1
      have HLN : Hid (l.length ≤ 9223372036854775807) := by have := dk_len HF1.out.hd; show _ ≤ _; omega
      obtain ⟨aoH, capH, aoT, capT, hK0, _, _⟩ := HF1.out.bk
      obtain ⟨wa, hw2⟩ : ∃ wa, wa = wr.alloc (aobj a) := ⟨_, rfl⟩
      have b2 : Below wr.heap.size wr wa := by rw [hw2]; exact (Below.refl _ _).alloc (Nat.le_refl _) _
      have HB2 : Hid (Below wr.heap.size wr wa) := b2
      have HF2 : Hid (Fb X wB wa ao cap l b m s1) := HF1.out.next b2
      have HDK : Hid (Dk wa ao cap l) := HF2.out.dkw
      have KB : Hid (Bk b (fcs ao cap l m s1 aoH capH aoT capT) wa) := hK0.later b2
      have KA : Hid (Bk wr.heap.size (acl a) wa) := by show Bk _ _ _; rw [hw2]; exact Bk.new wr (acl a) 55 wr.heap.size rfl
      have HW2 : Hid (wa = _) := hw2
      clear hap hK0 hw2 b2
      go_wp2_with fail
      rw [← HW2.out]
      refine region_done [false, false, false, false, false, false, false, true, true, false, false, false, false, false, false, true, true, true, true, true, true, true, true, true, true, true, true, true, false, false, false, false, false, false, false, false, false]
        [([], [16], none), ([0], [17], none), ([1], [18], none), ([2], [19], none), ([], [20], none), ([], [21], none), ([5], [22], none), ([4, 6], [23], none), ([], [24], none), ([3, 7, 8], [25], none), ([9], [25, 15], none), ([10], [25, 26], none), ([10], [27], none), ([], [7], none), ([13, 11, 9], [], none), ([12], [8], none)]
        (dfV b wr.heap.size l.length cap ao a e1) (doJ wa.heap.size (shw s1 a.pl) st1 e1) (by kernel_rfl) (by kernel_rfl) (fun dn f w hd _ => ⟨fun _ h => absurd ((hd 7).symm.trans h) (by decide), fun h => absurd ((hd 9).symm.trans h) (by decide), fun h => absurd ((hd 13).symm.trans h) (by decide), fun h => absurd ((hd 14).symm.trans h) (by decide)⟩) ?_ ?_
      · refine ⟨?_, ?_, ?_, ?_, ?_, ?_, ?_, ?_, ?_, ?_, ?_, ?_, ?_, ?_, ?_, ?_, trivial⟩
        · intro dn f w1 hdn hpn hb hJ _ K hK
          simp only [over, overL, Nat.reduceAdd]
          go_simp
          exact hK _ _ ⟨_, by simp only [over, overL, Nat.reduceAdd]; rfl, rfl, hb, hJ.same ⟨by decide, by decide, by decide, by decide⟩ ⟨updO_other (by decide), updO_other (by decide), updO_other (by decide)⟩ (Below.refl _ _), fun _ h => h⟩
        · intro dn f w1 hdn hpn hb hJ ⟨h16, _⟩ K hK
          replace h16 : f 16 = _ := h16
          simp only [over, overL, Nat.reduceAdd, h16]
          go_simp
          exact hK _ _ ⟨_, by simp only [over, overL, Nat.reduceAdd, h16]; rfl, rfl, hb, hJ.same ⟨by decide, by decide, by decide, by decide⟩ ⟨updO_other (by decide), updO_other (by decide), updO_other (by decide)⟩ (Below.refl _ _), fun _ h => h⟩
        · intro dn f w1 hdn hpn hb hJ ⟨h17, _⟩ K hK
          replace h17 : f 17 = _ := h17
          simp only [over, overL, Nat.reduceAdd, h17]
          go_simp
          exact hK _ _ ⟨_, by simp only [over, overL, Nat.reduceAdd, h17]; rfl, rfl, hb, hJ.same ⟨by decide, by decide, by decide, by decide⟩ ⟨updO_other (by decide), updO_other (by decide), updO_other (by decide)⟩ (Below.refl _ _), fun _ h => h⟩
        · intro dn f w1 hdn hpn hb hJ ⟨h18, _⟩ K hK
          replace h18 : f 18 = _ := h18
          have q0 := (KB.out.later hb).c 0 rfl
          simp only [over, overL, Nat.reduceAdd, h18]
          go_simp
          exact hK _ _ ⟨_, by simp only [over, overL, Nat.reduceAdd, h18]; rfl, rfl, hb, hJ.same ⟨by decide, by decide, by decide, by decide⟩ ⟨updO_other (by decide), updO_other (by decide), updO_other (by decide)⟩ (Below.refl _ _), fun _ h => h⟩
        · intro dn f w1 hdn hpn hb hJ _ K hK
          simp only [over, overL, Nat.reduceAdd]
          go_simp
          exact hK _ _ ⟨_, by simp only [over, overL, Nat.reduceAdd]; rfl, rfl, hb, hJ.same ⟨by decide, by decide, by decide, by decide⟩ ⟨updO_other (by decide), updO_other (by decide), updO_other (by decide)⟩ (Below.refl _ _), fun _ h => h⟩
        · intro dn f w1 hdn hpn hb hJ _ K hK
          simp only [over, overL, Nat.reduceAdd]
          go_simp
          exact hK _ _ ⟨_, by simp only [over, overL, Nat.reduceAdd]; rfl, rfl, hb, hJ.same ⟨by decide, by decide, by decide, by decide⟩ ⟨updO_other (by decide), updO_other (by decide), updO_other (by decide)⟩ (Below.refl _ _), fun _ h => h⟩
        · intro dn f w1 hdn hpn hb hJ ⟨h21, _⟩ K hK
          replace h21 : f 21 = _ := h21
          have q1 := (KA.out.later hb).c 1 rfl
          have q2 := (KA.out.later hb).c 2 rfl
          have q3 := (KA.out.later hb).c 3 rfl
          simp only [over, overL, Nat.reduceAdd, h21]
          go_simp
          exact hK _ _ ⟨_, by simp only [over, overL, Nat.reduceAdd, h21]; rfl, rfl, hb, hJ.same ⟨by decide, by decide, by decide, by decide⟩ ⟨updO_other (by decide), updO_other (by decide), updO_other (by decide)⟩ (Below.refl _ _), fun _ h => h⟩
        · intro dn f w1 hdn hpn hb hJ ⟨h20, h22, _⟩ K hK
          replace h20 : f 20 = _ := h20
          replace h22 : f 22 = _ := h22
          simp only [over, overL, Nat.reduceAdd, h20, h22]
          go_simp
          refine (shown_any X wB w1 ao cap l b m s1 a.pl (HF2.out.next hb) HWA.out).mono ?_
          rintro e w2 ⟨t, rfl, hst, hin, hb2⟩
          exact hK _ _ ⟨_, by simp only [over, overL, Nat.reduceAdd, h20, h22]; rfl, trivial, below_on hb hb2, hJ.shown ⟨updO_other (by decide), rfl, updO_other (by decide)⟩ hst hin hb2, fun j h => dfV_mono b wr.heap.size l.length cap ao a e1 j _ _ _ h hb2⟩
        · intro dn f w1 hdn hpn hb hJ _ K hK
          have q0 := (KA.out.later hb).c 0 rfl
          have q1 := (KA.out.later hb).c 1 rfl
          have q2 := (KA.out.later hb).c 2 rfl
          have q3 := (KA.out.later hb).c 3 rfl
          have q4 := (KA.out.later hb).c 4 rfl
          have q5 := (KA.out.later hb).c 5 rfl
          have q6 := (KA.out.later hb).c 6 rfl
          have q7 := (KA.out.later hb).c 7 rfl
          simp only [over, overL, Nat.reduceAdd]
          go_simp
          exact hK _ _ ⟨_, by simp only [over, overL, Nat.reduceAdd]; rfl, rfl, hb, hJ.same ⟨by decide, by decide, by decide, by decide⟩ ⟨updO_other (by decide), updO_other (by decide), updO_other (by decide)⟩ (Below.refl _ _), fun _ h => h⟩
        · intro dn f w1 hdn hpn hb hJ ⟨h19, h23, h24, _⟩ K hK
          replace h19 : f 19 = _ := h19
          replace h24 : f 24 = _ := h24
          obtain ⟨t, h23, hst, hin⟩ := hJ.1 hdn (hpn 7 (by simp))
          simp only [over, overL, Nat.reduceAdd, h19, h24, h23]
          go_simp
          refine (apply_any ao cap l t a w1 (HDK.out.next hb) HLN.out hin (HSL.out t hst) HAO.out.1 HAO.out.2).mono ?_
          rintro e w2 ⟨t2, rfl, hst2, hin2, hhi2, hb2⟩
          rw [hst, HAP.out] at hst2
          rw [hst, HAP.out]
          exact hK _ _ ⟨_, by simp only [over, overL, Nat.reduceAdd, h19, h24, h23]; rfl, trivial, below_on hb hb2, hJ.apply hdn ⟨updO_other (by decide), rfl⟩ hst2 hin2 hhi2 hb.size hb2, fun j h => dfV_mono b wr.heap.size l.length cap ao a e1 j _ _ _ h hb2⟩
        · intro dn f w1 hdn hpn hb hJ ⟨h25, _⟩ K hK
          obtain ⟨t, h25, _⟩ := hJ.2.1 (hpn 9 (by simp))
          simp only [over, overL, Nat.reduceAdd, h25]
          go_simp
          exact hK _ _ ⟨_, by simp only [over, overL, Nat.reduceAdd, h25]; rfl, ⟨by show _ = f 25; rw [h25]; rfl, t, h25⟩, hb, hJ.same ⟨by decide, by decide, by decide, by decide⟩ ⟨updO_other (by decide), updO_other (by decide), updO_other (by decide)⟩ (Below.refl _ _), fun _ h => h⟩
        · intro dn f w1 hdn hpn hb hJ ⟨h15, _⟩ K hK
          obtain ⟨h15, t, h25⟩ := (show f 15 = f 25 ∧ ∃ t : Sm, f 25 = .tuple #[smv t, .int .i64 e1] from h15)
          rw [h25] at h15
          have H25 : Hid (f 25 = _) := h25
          clear h25
          simp only [over, overL, Nat.reduceAdd, h15]
          go_simp
          exact hK _ _ ⟨_, by simp only [over, overL, Nat.reduceAdd, h15]; rfl, ⟨t, H25.out, rfl⟩, hb, hJ.same ⟨by decide, by decide, by decide, by decide⟩ ⟨updO_other (by decide), updO_other (by decide), updO_other (by decide)⟩ (Below.refl _ _), fun _ h => h⟩
        · intro dn f w1 hdn hpn hb hJ ⟨h15, _⟩ K hK
          obtain ⟨h15, t, h25⟩ := (show f 15 = f 25 ∧ ∃ t : Sm, f 25 = .tuple #[smv t, .int .i64 e1] from h15)
          rw [h25] at h15
          have H25 : Hid (f 25 = _) := h25
          clear h25
          simp only [over, overL, Nat.reduceAdd, h15]
          go_simp
          exact hK _ _ ⟨_, by simp only [over, overL, Nat.reduceAdd, h15]; rfl, rfl, hb, hJ.same ⟨by decide, by decide, by decide, by decide⟩ ⟨updO_other (by decide), updO_other (by decide), updO_other (by decide)⟩ (Below.refl _ _), fun _ h => h⟩
        · intro dn f w1 hdn hpn hb hJ _ K hK
          simp only [over, overL, Nat.reduceAdd]
          go_simp
          exact hK _ _ ⟨_, by simp only [over, overL, Nat.reduceAdd]; rfl, trivial, below_on hb ((Below.refl _ _).alloc (Nat.le_refl _) _), hJ.alloc hdn ⟨rfl, updO_other (by decide), updO_other (by decide)⟩ hb.size, fun j h => dfV_mono b wr.heap.size l.length cap ao a e1 j _ _ _ h ((Below.refl _ _).alloc (Nat.le_refl _) _)⟩
        · intro dn f w1 hdn hpn hb hJ ⟨h7, h26, j9, _⟩ K hK
          obtain ⟨t, h25, h26⟩ := (show ∃ t : Sm, f 25 = .tuple #[smv t, .int .i64 e1] ∧ f 26 = smv t from h26)
          have H25 : Hid (f 25 = _) := h25
          clear h25
          obtain ⟨B, h7, hB, _, u0, u1, u2, u3, u4, u5, u6, AB⟩ := hJ.2.2.1 (hpn 13 (by simp))
          have q0 := AB.c 0 rfl
          have q1 := AB.c 1 rfl
          have q2 := AB.c 2 rfl
          have q3 := AB.c 3 rfl
          have q4 := AB.c 4 rfl
          have q5 := AB.c 5 rfl
          have q6 := AB.c 6 rfl
          have qf0 := AB.f 0 rfl
          have qf1 := AB.f 1 rfl
          have qf2 := AB.f 2 rfl
          have qf3 := AB.f 3 rfl
          have qf4 := AB.f 4 rfl
          have qf5 := AB.f 5 rfl
          have qf6 := AB.f 6 rfl
          simp only [over, overL, Nat.reduceAdd, h7, h26]
          go_simp
          refine hK _ _ ⟨undef, by simp only [over, overL, Nat.reduceAdd, h7, h26]; rfl, trivial, blw_put7 hb hB t, hJ.store (hpn 9 (by simp)) (hpn 13 (by simp)) ⟨h7, H25.out⟩ hB AB, fun j h => dfV_free b wr.heap.size l.length cap ao a e1 j _ _ _ h⟩
        · intro dn f w1 hdn hpn hb hJ ⟨h27, _⟩ K hK
          replace h27 : f 27 = _ := h27
          simp only [over, overL, Nat.reduceAdd, h27]
          go_simp
          exact hK _ _ ⟨_, by simp only [over, overL, Nat.reduceAdd, h27]; rfl, rfl, hb, hJ.same ⟨by decide, by decide, by decide, by decide⟩ ⟨updO_other (by decide), updO_other (by decide), updO_other (by decide)⟩ (Below.refl _ _), fun _ h => h⟩
      intro dn f w3 hdn hb hJ hv
      obtain ⟨t, h25, hst, hin, hhi, hoff⟩ := hJ.2.1 (hdn 9 (by simp))
      obtain ⟨_, _, B, t', h7, h25', hK7⟩ := hJ.2.2.2 (hdn 14 (by simp))
      have hsm : sml t' = sml t := by
        rw [h25] at h25'
        injection h25' with h25'
        have h9 := congrArg (fun x : Array Value => x[0]?) h25'
        simp only [List.getElem?_toArray, List.getElem?_cons_zero, Option.some.injEq] at h9
        injection h9 with h9
        exact (congrArg Array.toList h9).symm
      rw [hsm] at hK7
      have h8 : f 8 = .int .i64 e1 := hv.2.2.2.2.2.2.2.2.2.2.2.2.2.2.2.1
      have HB3 : Hid (Below wr.heap.size wr w3) := below_on HB2.out hb
      have KT3 : Hid (Bk B (sml t) w3) := hK7
      have KA3 : Hid (Bk wr.heap.size (acl a) w3) := KA.out.later hb
      have HF3 : Hid (Fb X wB w3 ao cap l b m s1) := HF2.out.next hb
      have HIN : Hid (SmIn w3 t) := hin
      have HST : Hid (t.st = st1) := hst
      have HHH : Hid (FlX X w3 t.aoH t.held ∧ TxX X w3 t.aoT t.touched) := ⟨⟨hin.held, high_x hhi.held HF2.out.low⟩, ⟨hin.touched, high_x hhi.touched HF2.out.low⟩⟩
      have hBl := hK7.1
      clear hJ hv hb hdn hst hin hhi hoff hK7 hsm h25 h25'
      simp only [over, overL, Nat.reduceAdd, h7, h8]
      clear h7 h8
      rcases HCS.out with ⟨t0, hs0, ha0, hs1⟩ | ⟨e0, he0, ha0, hs1⟩
      · rw [HAP.out] at ha0
        injection ha0 with ha0 ha1
        subst ha0 ha1
        have HS1 : Hid (stp l a s1 = some (kep s1 a.pl t.st)) := by show _ = _; rw [HST.out]; exact hs1
        have HM1 : Hid (May l (kep s1 a.pl t.st)) := stp_may HF1.out.hd HF1.out.may HS1.out
        have HMT : Hid (May l t.st) := by show May _ _; rw [HST.out]; exact stp_may HF1.out.hd (shw_may HF1.out.may a.pl) hs0
        have HTL : Hid (t.wl.length ≤ 1000000000) := by have := (may_smlen HF1.out.hd HMT.out).2; show _ ≤ _; omega
        have HTF : Hid (∀ x ∈ t.wl, x.2.2.2.length ≤ 1000) := fun x hx => by have := (F.fref_in ((may_frefs HMT.out).1 x hx)).1; omega
        clear hs0 hs1
        have q0 := (KT3.out).c 0 rfl
        have q1 := (KT3.out).c 1 rfl
        have q2 := (KT3.out).c 2 rfl
        have q3 := (KT3.out).c 3 rfl
        have q4 := (KT3.out).c 4 rfl
        have q5 := (KT3.out).c 5 rfl
        have q6 := (KT3.out).c 6 rfl
        have p0 := (KA3.out).c 0 rfl
        have p1 := (KA3.out).c 1 rfl
        have p2 := (KA3.out).c 2 rfl
        have p3 := (KA3.out).c 3 rfl
        have p4 := (KA3.out).c 4 rfl
        have p5 := (KA3.out).c 5 rfl
        have p6 := (KA3.out).c 6 rfl
        have p7 := (KA3.out).c 7 rfl
        go_wp2_with fail
        refine (keepF_any X wB w3 ao cap l b m s1 a.pl t HF3.out HWA.out HIN.out HTL.out HTF.out HHH.out.1 HHH.out.2 HM1.out).mono ?_
        rintro e w4 ⟨rfl, hf4, hb4⟩
        have HF4 : Hid (Fb X wB w4 ao cap l b m (kep s1 a.pl t.st)) := hf4
        have HB4 : Hid (But b m w w4) := (HBU.out.trans (but_below HB3.out)).trans hb4
        have HR4 : Hid (runO l acs s = runO l (acs.drop (k + 1)) (kep s1 a.pl t.st)) := by show _ = _; rw [HDR.out, HS1.out]; rfl
        clear hf4 hb4 q0 q1 q2 q3 q4 q5 q6 p0 p1 p2 p3 p4 p5 p6 p7
        go_wp2
        go_roundw
        case rel => exact ⟨k + 1, _, by omega, by go_num, HF4.out, HB4.out, HR4.out⟩
        case measure => simp [intOf]; omega
      · rw [HAP.out] at ha0
        injection ha0 with ha0 ha1
        subst ha1
        have h2 : (e1 == 0) = false := by simp [he0]
        have h3 : (e1 != 0) = true := by simp [he0]
        have HE : Hid (runO l acs s = none) := by show _ = _; rw [HDR.out, hs1]; rfl
        have HE0 : Hid (e1 ≠ 0) := he0
        clear he0 hs1
        go_wp2
        go_ret
        first | exact ⟨e1, rfl, s1, HF3.out, HBU.out.trans (but_below HB3.out), .inr ⟨HE.out, HE0.out⟩⟩ | exact ⟨e1, s1, rfl, HF3.out, HBU.out.trans (but_below HB3.out), .inr ⟨HE.out, HE0.out⟩⟩
    · have hki : ¬ (k : Int) < (acs.length : Int) := by omega
      have HE : Hid (runO l acs s = some s1) := by show _ = _; rw [HRU.out, List.drop_eq_nil_of_le (by omega)]; rfl
      go_wp2
      go_ret
      first | exact ⟨0, rfl, s1, HF1.out, HBU.out, .inl ⟨HE.out, rfl⟩⟩ | exact ⟨0, s1, rfl, HF1.out, HBU.out, .inl ⟨HE.out, rfl⟩⟩
end Go.Proofs.YtgbnjgenopdmfaaGreat

/- maps.EqualFunc at wells, hasWellsOf walked. -/
namespace Go.Proofs.YtgbnjgenopdmfaaGreat
open Go.RowKit Go.Maps
/-- Is there the same in all wells? -/
def gdW (wl2 : List Wh) (x : Wh) : Bool := hasW wl2 x.1 && decide (x.2.2.2 = (fdAt wl2 x.1).2.2)
def eqW (wl1 wl2 : List Wh) : Bool := decide (wl1.length = wl2.length) && wl1.all (gdW wl2)
theorem sub_len {α : Type} [DecidableEq α] : ∀ (a b : List α), a.Nodup → (∀ x ∈ a, x ∈ b) → a.length ≤ b.length
  | [], _, _, _ => Nat.zero_le _
  | x :: a, b, hn, hs => by
    have hx := hs x (by simp)
    have h1 := sub_len a (b.erase x) (List.nodup_cons.1 hn).2 fun y hy => (List.mem_erase_of_ne (fun e => (List.nodup_cons.1 hn).1 (by rw [← e]; exact hy))).2 (hs y (by simp [hy]))
    have h2 := List.length_erase_of_mem hx
    have h3 := List.length_pos_of_mem hx
    rw [List.length_cons]
    omega
theorem sub_eq {α : Type} [DecidableEq α] {a b : List α} (hn : a.Nodup) (hs : ∀ x ∈ a, x ∈ b) (hl : b.length ≤ a.length) : ∀ x ∈ b, x ∈ a := by
  intro x hx
  refine Classical.byContradiction fun h => ?_
  have := sub_len (x :: a) b (List.nodup_cons.2 ⟨h, hn⟩) fun y hy => by rcases List.mem_cons.1 hy with rfl | hy; exact hx; exact hs y hy
  rw [List.length_cons] at this
  omega
theorem eqW_iff {wl1 wl2 : List Wh} (h1 : Rising (whp wl1)) (h2 : Rising (whp wl2)) : eqW wl1 wl2 = decide (whp wl1 = whp wl2) := by
  rw [Bool.eq_iff_iff, decide_eq_true_eq]
  unfold eqW
  rw [Bool.and_eq_true, decide_eq_true_eq, List.all_eq_true]
  constructor
  · rintro ⟨hl, hg⟩
    have hs : ∀ x ∈ whp wl1, x ∈ whp wl2 := by
      intro x hx
      obtain ⟨y, hy, rfl⟩ := List.mem_map.1 hx
      have := hg y hy
      unfold gdW at this
      rw [Bool.and_eq_true, decide_eq_true_eq] at this
      rcases has_cases wl2 y.1 with ⟨_, e, _⟩ | ⟨z, hz, hzp, _, e⟩
      · rw [e] at this; cases this.1
      · refine List.mem_map.2 ⟨z, hz, ?_⟩
        rw [this.2, e, hzp]
    have hn : (whp wl1).Nodup := List.Pairwise.imp (fun {a b} h => fun (e : a = b) => plt_ne h (by rw [e])) h1
    exact rising_unique h1 h2 fun x => ⟨hs x, sub_eq hn hs (by rw [whp_length, whp_length]; omega) x⟩
  · intro e
    refine ⟨by rw [← whp_length wl1, e, whp_length], fun x hx => ?_⟩
    have hx2 : (x.1, x.2.2.2) ∈ whp wl2 := by rw [← e]; exact List.mem_map.2 ⟨x, hx, rfl⟩
    have e2 := fdAt_whp wl2 x.1
    rw [wellF_mem h2 hx2] at e2
    obtain ⟨z, hz, hzx⟩ := List.mem_map.1 hx2
    injection hzx with hz1 _
    unfold gdW
    rw [Bool.and_eq_true, decide_eq_true_eq]
    refine ⟨?_, e2.symm⟩
    rcases has_cases wl2 x.1 with ⟨hno, _, _⟩ | ⟨_, _, _, e3, _⟩
    · exact absurd hz1 (hno z hz)
    · exact e3
theorem en_E : ∀ args w, (callFunc 125 args).run Tryz.prog w = .ok (.enter 125 args) w := enters_of Tryz.func125 (by kernel_rfl) rfl
theorem fdAt_mem {wl : List Wh} {p : Plc} (h : hasW wl p = true) : ∃ x ∈ wl, fdAt wl p = x.2 := by
  rcases has_cases wl p with ⟨_, e, _⟩ | ⟨x, hx, _, _, e⟩
  · rw [e] at h; cases h
  · exact ⟨x, hx, e⟩
set_option maxHeartbeats 6400000 in
set_option maxRecDepth 100000 in
theorem equalMaps_any (m1 m2 : Nat) (wl1 wl2 : List Wh) (w : World) (h1 : WM w m1 wl1) (h2 : WM w m2 wl2) (o1 : Once wl1) (f1 : ∀ x ∈ wl1, F.Fl w x.2.1 x.2.2.2 ∧ x.2.2.2.length ≤ 1000) (f2 : ∀ x ∈ wl2, F.Fl w x.2.1 x.2.2.2) :
    Calls Tryz.prog 124 #[.map (some m1), .map (some m2), .func (.func 125) #[] #[]] w fun e w' => e = .returned (.bool (eqW wl1 wl2)) ∧ Below w.heap.size w w' := by
  have HF1 : Hid (∀ x ∈ wl1, F.Fl w x.2.1 x.2.2.2 ∧ x.2.2.2.length ≤ 1000) := f1
  have HF2 : Hid (∀ x ∈ wl2, F.Fl w x.2.1 x.2.2.2) := f2
  have HM2 : Hid (WM w m2 wl2) := h2
  have HON : Hid (Once wl1) := o1
  obtain ⟨D2, ho2, hr2⟩ := h2
  obtain ⟨D, ho1, hr1⟩ := h1
  have l1 := fun ty => ho1.len (t := 93) Tryz.underlying93 ty
  have l2 := fun ty => ho2.len (t := 93) Tryz.underlying93 ty
  rw [hr1.size] at l1
  rw [hr2.size] at l2
  have HOW : Hid (w.ownsMap Tryz.prog 53 RV m1 (Maps.size D) D) := ho1
  have HRD : Hid (Reads D wl1) := hr1
  clear ho1 ho2 hr1 hr2 f1 f2 o1
  by_cases hlen : wl1.length = wl2.length
  rotate_left
  · have HQ : Hid (eqW wl1 wl2 = false) := by show _ = _; unfold eqW; rw [decide_eq_false hlen]; rfl
    have hne : ((wl1.length : Int) != (wl2.length : Int)) = true := by simp; omega
    have hne2 : ¬ ((wl1.length : Int) = (wl2.length : Int)) := by omega
    clear hlen
    go_enter Tryz.func124, Tryz.ntmps124
    go_wp2
    go_ret
    exact ⟨by rw [HQ.out]; rfl, Below.refl _ _⟩
  have HLE : Hid (wl1.length = wl2.length) := hlen
  rw [hlen] at l1
  clear hlen
  have eg := en_E
  go_enter Tryz.func124, Tryz.ntmps124
  go_wp2_with (first
    | (at_range; refine wpList_range_own _ rfl _ 93 rfl 53 37 lawP Tryz.underlying93 RV m1 (Maps.size D) D rfl HOW.out ?_; intro w0 hrg0 hg0 hs0)
    | go_in)
  go_frame
  have HRG0 : Hid (w0.ranges Tryz.prog 53 RV m1 w.heap.size (Maps.size D) D (has D) (Maps.size D)) := hrg0
  have HB0 : Hid (Below w.heap.size w w0) := ⟨hg0.os, hg0.tape, hg0.output, hg0.size, fun k hk => hg0.block k hk (by simp)⟩
  have HS0 : Hid (w.heap.size < w0.heap.size) := by show _ < _; rw [hs0]; omega
  clear hrg0 hg0 hs0 l1 l2
  go_loopw [18] (fun _ wr => ∃ (left : Lit → Bool) (cnt : Nat), wr.ranges Tryz.prog 53 RV m1 w.heap.size (Maps.size D) D left cnt ∧ Below w.heap.size w wr ∧ w.heap.size < wr.heap.size ∧ (∀ kl, left kl = true → has D kl = true) ∧ (∀ x ∈ wl1, left (klP x.1) = false → gdW wl2 x = true)) (fun _ wr => wr.rangeLeft m1 w.heap.size)
  case atStart => exact ⟨_, _, HRG0.out, HB0.out, HS0.out, fun _ h => h, fun x hx h => absurd h (by rw [has_of HRD.out hx]; decide)⟩
  case round =>
    obtain ⟨left, cnt, hrg, hb, hsz, hsub, hgo⟩ := hrel
    have HRG : Hid (wr.ranges Tryz.prog 53 RV m1 w.heap.size (Maps.size D) D left cnt) := hrg
    have HB : Hid (Below w.heap.size w wr) := hb
    have HSU : Hid (∀ kl, left kl = true → has D kl = true) := hsub
    have HGO : Hid (∀ x ∈ wl1, left (klP x.1) = false → gdW wl2 x = true) := hgo
    have HSZ : Hid (w.heap.size < wr.heap.size) := hsz
    clear hb hsub hgo hsz
    go_wp2_with (first
      | (at_next; refine wpList_next_ranges _ rfl _ rfl 53 lawP RV plv (fun v : Value => v) (fun key kl h => by obtain ⟨p, hp, _⟩ := keyP_inv h; exact ⟨p, hp⟩) (fun v _ _ => ⟨v, rfl⟩) m1 w.heap.size (Maps.size D) D left cnt rfl HRG.out ?_ ?_)
      | go_in)
    · intro _ hl0
      have HQ : Hid (eqW wl1 wl2 = true) := by
        show _ = _
        unfold eqW
        rw [decide_eq_true HLE.out, Bool.true_and, List.all_eq_true]
        exact fun x hx => HGO.out x hx (hl0 _)
      clear hrg hl0
      go_wp2
      go_ret
      exact ⟨by rw [HQ.out]; rfl, HB.out⟩
    · intro x1 x2 x3 c kl yd yp w1 cnt1 hkey hlk hv hat hrg1 hlt hg1 hs1 hen
      obtain ⟨x', hxx, hwf⟩ := keyP_inv (v := plv (x1, x2, x3)) hkey
      obtain rfl : (x1, x2, x3) = x' := by
        simp only [plv] at hxx
        injection hxx with hxx
        simp at hxx
        obtain ⟨a1, a2, a3⟩ := hxx
        exact Prod.ext a1 (Prod.ext a2 a3)
      obtain rfl : klP (x1, x2, x3) = kl := by
        have := keyP_some hwf
        rw [show keyOf Tryz.prog 53 (plv (x1, x2, x3)) = some kl from hkey] at this
        injection this with this
        exact this.symm
      obtain ⟨y, hy, hyx⟩ := left_at HRD.out hwf (HSU.out _ hlk)
      obtain ⟨rfl, rfl, rfl⟩ : x1 = y.1.1 ∧ x2 = y.1.2.1 ∧ x3 = y.1.2.2 := by rw [hyx]; exact ⟨rfl, rfl, rfl⟩
      clear hyx
      obtain rfl : c = hdv y.2 := by
        have h1 := HRD.out.at' y hy .nil
        have h2 := hat .nil
        rw [show D.atKey (klP y.1) .nil = yd from h2] at h1
        simp only [RV, Option.some.injEq, Prod.mk.injEq] at hv
        rw [← hv.1] at h1
        injection h1
      have HB1 : Hid (Below w.heap.size w w1) := HB.out.grown hg1 HB.out.size (fun k hk => by injection hk with hk; omega)
      have HSZ1 : Hid (w.heap.size < w1.heap.size) := by show _ < _; rw [hs1]; exact HSZ.out
      have HLT : Hid (cnt1 < cnt) := hlt
      have HLQ : Hid (wr.rangeLeft m1 w.heap.size = cnt) := hrg.left_eq
      obtain ⟨w2, hw2⟩ : ∃ w2, w2 = w1.alloc (pobj y.1) := ⟨_, rfl⟩
      have b2 : Below w1.heap.size w1 w2 := by rw [hw2]; exact (Below.refl _ _).alloc (Nat.le_refl _) _
      have HB2 : Hid (Below w.heap.size w w2) := below_on HB1.out b2
      have HRG2 : Hid (w2.ranges Tryz.prog 53 RV m1 w.heap.size (Maps.size D) D (fun x => left x && !x.sameKey (klP y.1)) cnt1) := by show World.ranges _ _ _ _ _ _ _ _ _ _; rw [hw2]; exact hrg1.alloc _
      have hlk2 := (HM2.out.next HB2.out).look2 (p := y.1) hwf
      rw [hw2] at hlk2
      have HFY : Hid (F.Fl w y.2.1 y.2.2.2 ∧ y.2.2.2.length ≤ 1000) := HF1.out y hy
      have HGN : Hid (gdW wl2 y = true → ∀ x ∈ wl1, (left (klP x.1) && !(klP x.1).sameKey (klP y.1)) = false → gdW wl2 x = true) := fun hg x hx h => by
        by_cases e : x.1 = y.1
        · rw [once_one HON.out hx hy e]; exact hg
        · refine HGO.out x hx ?_
          have hs : (klP x.1).sameKey (klP y.1) = false := sameKey_ne fun e2 => e (klP_inj (HRD.out.wf x hx) (HRD.out.wf y hy) e2)
          rw [hs] at h
          simpa using h
      clear hkey hlk hv hat hrg1 hlt hg1 hs1 hxx hwf hrg b2
      cases hgd : hasW wl2 y.1 with
      | false =>
        have HQ : Hid (eqW wl1 wl2 = false) := by
          show _ = _
          unfold eqW
          rw [Bool.and_eq_false_iff]
          refine .inr (List.all_eq_false.2 ⟨y, hy, ?_⟩)
          unfold gdW
          rw [hgd]
          simp
        rw [hgd] at hlk2
        clear hgd hy
        have HW2 : Hid (w2 = _) := hw2
        clear hw2
        generalize fdAt wl2 y.1 = fd at *
        go_wp2
        go_ret
        rw [← HW2.out]
        exact ⟨by rw [HQ.out]; rfl, HB2.out⟩
      | true =>
        obtain ⟨z, hz, hfz⟩ := fdAt_mem hgd
        have hfl2 := HF2.out z hz
        rw [← hfz] at hfl2
        rw [hgd] at hlk2
        have HGD : Hid (gdW wl2 y = decide (y.2.2.2 = (fdAt wl2 y.1).2.2)) := by show _ = _; unfold gdW; rw [hgd]; rfl
        have HY : Hid (y ∈ wl1) := hy
        clear hgd hy hz hfz
        have HEQ := (show Hid _ from equal_any y.2.1 (fdAt wl2 y.1).1 y.2.2.1 (fdAt wl2 y.1).2.1 y.2.2.2 (fdAt wl2 y.1).2.2 w2 (HFY.out.1.next HB2.out) (hfl2.next HB2.out) (by have := HFY.out.2; omega))
        have HW2 : Hid (w2 = _) := hw2
        rw [hw2] at HEQ
        clear hw2 hfl2
        generalize fdAt wl2 y.1 = fd at *
        cases hd : decide (y.2.2.2 = fd.2.2) with
        | false =>
          have HQ : Hid (eqW wl1 wl2 = false) := by
            show _ = _
            unfold eqW
            rw [Bool.and_eq_false_iff]
            refine .inr (List.all_eq_false.2 ⟨y, HY.out, ?_⟩)
            rw [HGD.out, hd]
            decide
          rw [hd] at HEQ
          clear hd
          go_wp2_with (go_at_fn 125; refine Calls.mono HEQ.out ?_; rintro e w3 ⟨rfl, n3, rfl⟩)
          go_ret
          rw [← HW2.out]
          exact ⟨by rw [HQ.out]; rfl, blw_drewN HB2.out n3⟩
        | true =>
          have HGY : Hid (gdW wl2 y = true) := by show _ = _; rw [HGD.out, hd]
          rw [hd] at HEQ
          clear hd
          go_wp2_with (go_at_fn 125; refine Calls.mono HEQ.out ?_; rintro e w3 ⟨rfl, n3, rfl⟩)
          have hrg3 : (w2.drewN n3).ranges Tryz.prog 53 RV m1 w.heap.size (Maps.size D) D (fun x => left x && !x.sameKey (klP y.1)) cnt1 := HRG2.out.kept (grown_of (blw_drewN (Below.refl _ w2) n3) (r := none)) (by simp) (by simp)
          rw [← HW2.out]
          go_roundw
          case rel => exact ⟨_, cnt1, hrg3, blw_drewN HB2.out n3, Nat.lt_of_lt_of_le HSZ1.out (by rw [HW2.out]; simp [World.drewN]), fun kl h => HSU.out kl (by simp at h; exact h.1), HGN.out HGY.out⟩
          case measure => rw [hrg3.left_eq, HLQ.out]; exact HLT.out
set_option linter.unusedVariables false in
def hwV (b b2 m m2 : Nat) (r : Bool) (d : Nat) (v : Value) (_ : World) : Prop :=
  match d with
  | 5 => v = .pointer (some ⟨b, 0, none⟩)
  | 6 => v = .pointer (some ⟨b, 0, none⟩)
  | 7 => v = .pointer (some ⟨b, 1, none⟩)
  | 8 => v = .map (some m)
  | 9 => v = .pointer (some ⟨b2, 0, none⟩)
  | 10 => v = .pointer (some ⟨b2, 0, none⟩)
  | 11 => v = .pointer (some ⟨b2, 1, none⟩)
  | 12 => v = .map (some m2)
  | 13 => v = .bool r
  | 4 => v = .bool r
  | _ => True
set_option linter.unusedVariables false in
theorem hwV_mono (b b2 m m2 : Nat) (r : Bool) (d : Nat) (v : Value) (w w' : World) (h : hwV b b2 m m2 r d v w) (_ : Below w.heap.size w w') : hwV b b2 m m2 r d v w' := h
set_option maxHeartbeats 3200000 in
set_option maxRecDepth 100000 in
theorem hasWells_any (X X2 : Nat → Prop) (wB wB2 w : World) (ao ao2 : Option Addr) (cap cap2 : Nat) (l l2 : List Sit) (b m b2 m2 : Nat) (s s2 : Sta) (h : Fb X wB w ao cap l b m s) (h2 : Fb X2 wB2 w ao2 cap2 l2 b2 m2 s2) :
    Calls Tryz.prog 86 #[ptr b, ptr b2] w fun e w' => e = .returned (.bool (decide (s.wells = s2.wells))) ∧ Below w.heap.size w w' := by
  obtain ⟨wl, hwm, hwl, hfl⟩ := h.wells
  obtain ⟨wl2, hwm2, hwl2, hfl2⟩ := h2.wells
  obtain ⟨aoH, capH, aoT, capT, hK, _, _⟩ := h.bk
  obtain ⟨aoH2, capH2, aoT2, capT2, hK2, _, _⟩ := h2.bk
  have hr : eqW wl wl2 = decide (s.wells = s2.wells) := by rw [eqW_iff (by rw [hwl]; exact h.may.rising) (by rw [hwl2]; exact h2.may.rising), hwl, hwl2]
  have HQ : Hid (∀ w1, Below w.heap.size w w1 → Calls Tryz.prog 124 #[.map (some m), .map (some m2), .func (.func 125) #[] #[]] w1 fun e w' => e = .returned (.bool (decide (s.wells = s2.wells))) ∧ Below w1.heap.size w1 w') := fun w1 hb => by
    rw [← hr]
    refine equalMaps_any m m2 wl wl2 w1 (hwm.next hb) (hwm2.next hb) (h.once hwl).1 (fun x hx => ⟨((hfl x hx).1).next hb, ?_⟩) (fun x hx => ((hfl2 x hx).1).next hb)
    have := (F.fref_in (mayHold_iff.1 (h.may.wells (x.1, x.2.2.2) (by rw [← hwl]; exact List.mem_map.2 ⟨x, hx, rfl⟩)).2.2).1).1
    simp only at this
    omega
  have KB : Hid (Bk b (fcs ao cap l m s aoH capH aoT capT) w) := hK
  have KC : Hid (Bk b2 (fcs ao2 cap2 l2 m2 s2 aoH2 capH2 aoT2 capT2) w) := hK2
  generalize decide (s.wells = s2.wells) = r at *
  clear h h2 hwm hwl hfl hwm2 hwl2 hfl2 hK hK2 hr
  go_enter Tryz.func86, Tryz.ntmps86
  go_wp2_with fail
  refine region_inv [false, false, false, false, true, true, true, true, true, true, true, true, true, true]
    [(5, [], none), (6, [5], none), (7, [6], none), (8, [7], none), (9, [], none), (10, [9], none), (11, [10], none), (12, [11], none), (13, [8, 12], none), (4, [13], none)]
    (hwV b b2 m m2 r) (by kernel_rfl) (by kernel_rfl) (hwV_mono b b2 m m2 r) ?_ ?_
  · refine ⟨?_, ?_, ?_, ?_, ?_, ?_, ?_, ?_, ?_, ?_, trivial⟩
    · intro f w1 hb _ K hK
      simp only [over, overL, Nat.reduceAdd]
      go_simp
      exact hK _ _ ⟨_, rfl, by simp only [over, overL, Nat.reduceAdd]; rfl, Below.refl _ _⟩
    · intro f w1 hb ⟨h5, _⟩ K hK
      replace h5 : f 5 = _ := h5
      simp only [over, overL, Nat.reduceAdd, h5]
      go_simp
      exact hK _ _ ⟨_, rfl, by simp only [over, overL, Nat.reduceAdd, h5]; rfl, Below.refl _ _⟩
    · intro f w1 hb ⟨h6, _⟩ K hK
      replace h6 : f 6 = _ := h6
      simp only [over, overL, Nat.reduceAdd, h6]
      go_simp
      exact hK _ _ ⟨_, rfl, by simp only [over, overL, Nat.reduceAdd, h6]; rfl, Below.refl _ _⟩
    · intro f w1 hb ⟨h7, _⟩ K hK
      replace h7 : f 7 = _ := h7
      have q1 := (KB.out.later hb).c 1 rfl
      simp only [over, overL, Nat.reduceAdd, h7]
      go_simp
      exact hK _ _ ⟨_, rfl, by simp only [over, overL, Nat.reduceAdd, h7]; rfl, Below.refl _ _⟩
    · intro f w1 hb _ K hK
      simp only [over, overL, Nat.reduceAdd]
      go_simp
      exact hK _ _ ⟨_, rfl, by simp only [over, overL, Nat.reduceAdd]; rfl, Below.refl _ _⟩
    · intro f w1 hb ⟨h9, _⟩ K hK
      replace h9 : f 9 = _ := h9
      simp only [over, overL, Nat.reduceAdd, h9]
      go_simp
      exact hK _ _ ⟨_, rfl, by simp only [over, overL, Nat.reduceAdd, h9]; rfl, Below.refl _ _⟩
    · intro f w1 hb ⟨h10, _⟩ K hK
      replace h10 : f 10 = _ := h10
      simp only [over, overL, Nat.reduceAdd, h10]
      go_simp
      exact hK _ _ ⟨_, rfl, by simp only [over, overL, Nat.reduceAdd, h10]; rfl, Below.refl _ _⟩
    · intro f w1 hb ⟨h11, _⟩ K hK
      replace h11 : f 11 = _ := h11
      have q1 := (KC.out.later hb).c 1 rfl
      simp only [over, overL, Nat.reduceAdd, h11]
      go_simp
      exact hK _ _ ⟨_, rfl, by simp only [over, overL, Nat.reduceAdd, h11]; rfl, Below.refl _ _⟩
    · intro f w1 hb ⟨h8, h12, _⟩ K hK
      replace h8 : f 8 = _ := h8
      replace h12 : f 12 = _ := h12
      simp only [over, overL, Nat.reduceAdd, h8, h12]
      go_simp
      refine (HQ.out w1 hb).mono ?_
      rintro e w2 ⟨rfl, hb2⟩
      exact hK _ _ ⟨_, rfl, by simp only [over, overL, Nat.reduceAdd, h8, h12]; rfl, hb2⟩
    · intro f w1 hb ⟨h13, _⟩ K hK
      replace h13 : f 13 = _ := h13
      simp only [over, overL, Nat.reduceAdd, h13]
      go_simp
      exact hK _ _ ⟨_, rfl, by simp only [over, overL, Nat.reduceAdd, h13]; rfl, Below.refl _ _⟩
  intro f w1 hb hv
  have h4 : f 4 = _ := hv.2.2.2.2.2.2.2.2.2.1
  have HB : Hid (Below w.heap.size w w1) := hb
  clear hv hb
  simp only [over, overL, Nat.reduceAdd, h4]
  clear h4
  go_wp2
  go_ret
  exact ⟨rfl, HB.out⟩
set_option maxHeartbeats 1600000 in
set_option maxRecDepth 100000 in
theorem newBenchF_any (X : Nat → Prop) (ao : Option Addr) (cap : Nat) (l : List Sit) (wB w : World) (hD : Dk wB ao cap l) (hd : dchk l = 0) (hb : Below wB.heap.size wB w) (hX : ∀ k, X k ↔ k = w.heap.size + 1 ∨ k = w.heap.size) :
    Calls Tryz.prog 23 #[.slice ao l.length cap] w fun e w' => e = .returned (ptr (w.heap.size + 1)) ∧ Below w.heap.size w w' ∧ Fb X wB w' ao cap l (w.heap.size + 1) w.heap.size sta0 := by
  have HD : Hid (Dk wB ao cap l) := hD
  have HDD : Hid (dchk l = 0) := hd
  have HB : Hid (Below wB.heap.size wB w) := hb
  have HX : Hid (∀ k, X k ↔ k = w.heap.size + 1 ∨ k = w.heap.size) := hX
  clear hD hd hb hX
  go_enter Tryz.func23, Tryz.ntmps23
  have hmm := @run_makeMap Tryz.prog
  go_wp2
  go_ret
  have b0 : Below w.heap.size w (w.alloc (.map #[] 0)) := (Below.refl _ _).alloc (Nat.le_refl _) _
  have b1 : Below (w.alloc (.map #[] 0)).heap.size (w.alloc (.map #[] 0)) ((w.alloc (.map #[] 0)).alloc (.cells (fcs ao cap l w.heap.size sta0 none 0 none 0).toArray 95)) := (Below.refl _ _).alloc (Nat.le_refl _) _
  have hs := HB.out.size
  refine ⟨rfl, below_on b0 b1, HD.out, HDD.out, may_sta0 l, HB.out.trans ((below_on b0 b1).mono hs), ⟨by omega, hs⟩, by omega, ⟨(HX.out _).2 (.inl rfl), (HX.out _).2 (.inr rfl)⟩, fun k hk => ?_, ⟨[], (WM.made w).next b1, rfl, fun x hx => by cases hx⟩, none, 0, none, 0, Bk.new _ _ 95 (w.heap.size + 1) (by simp), ⟨F.Fl.nil _ _, .inl rfl⟩, ⟨Tx.nil _ _, .inl rfl⟩⟩
  have := (HX.out k).1 hk
  simp
  omega
end Go.Proofs.YtgbnjgenopdmfaaGreat
