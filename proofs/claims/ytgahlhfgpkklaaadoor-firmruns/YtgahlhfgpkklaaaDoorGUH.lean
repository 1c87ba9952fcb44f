/- Commands copied; FirmRun of the document walked. -/
import Derived.Test.YtgahlhfgpkklaaaDoorFUH
import Derived.Test.YtgahlhfgpkklaaaDoorGPH
namespace Go.Proofs.YtgahlhfgpkklaaaDoor
open Go.RowKit Go.Maps

/-- A new block for a state; a state in it. -/
def NwD (m : Nat) (v : Value) (w : World) : Prop := ∃ b cs, v = ptr b ∧ m ≤ b ∧ cs.length = 9 ∧ (∃ t, cs[0]? = some (.bool t)) ∧ Bk b cs w
def IsD (m : Nat) (x : Fm) (v : Value) (w : World) : Prop := ∃ b, v = ptr b ∧ m ≤ b ∧ Bk b (fc x) w
theorem Bk.outD {b k : Nat} {cs vs : List Value} {w : World} (h : Bk k cs w) (hn : k ≠ b) : Bk k cs (w.setCells b 0 vs) := h.same (low_setCells (Nat.zero_le b) vs 0 w).size (out_setCells hn vs 0 w)
theorem NwD.later {m : Nat} {v : Value} {w w1 : World} (h : NwD m v w) (hb : Below w.heap.size w w1) : NwD m v w1 := by
  obtain ⟨b, cs, h1, h2, h3, ht, h4⟩ := h
  exact ⟨b, cs, h1, h2, h3, ht, h4.later hb⟩
theorem IsD.later {m : Nat} {x : Fm} {v : Value} {w w1 : World} (h : IsD m x v w) (hb : Below w.heap.size w w1) : IsD m x v w1 := by
  obtain ⟨b, h1, h2, h4⟩ := h
  exact ⟨b, h1, h2, h4.later hb⟩
theorem NwD.put {m b : Nat} {cs : List Value} {x : Fm} {v : Value} {w : World} (h : NwD m v w) (K : Bk b cs w) (hl : cs.length = 9) : NwD m v (w.setCells b 0 (fc x)) := by
  obtain ⟨b2, c2, h1, h2, h3, ht, h4⟩ := h
  by_cases e : b2 = b
  · subst e
    exact ⟨b2, fc x, h1, h2, rfl, ⟨_, rfl⟩, K.setAll (fc x) (by rw [hl]; rfl)⟩
  · exact ⟨b2, c2, h1, h2, h3, ht, h4.outD e⟩
theorem IsD.put {m b : Nat} {cs : List Value} {x : Fm} {v : Value} {w : World} (h : IsD m x v w) (K : Bk b cs w) (hl : cs.length = 9) : IsD m x v (w.setCells b 0 (fc x)) := by
  obtain ⟨b2, h1, h2, h4⟩ := h
  by_cases e : b2 = b
  · subst e
    exact ⟨b2, h1, h2, K.setAll (fc x) (by rw [hl]; rfl)⟩
  · exact ⟨b2, h1, h2, h4.outD e⟩
def encD : Enc Cm := ⟨31, 5, fun c => [.int .i64 c.k, .int .i64 c.x, .int .i64 c.y, .int .i64 c.z, .int .i64 c.v]⟩
theorem goodD : Good encD := ⟨fun _ => rfl, fun x u hu => by simp [encD] at hu; rcases hu with hu | hu | hu | hu | hu <;> (subst hu; rfl)⟩
theorem infoD : (Tryd.prog.info? 31).map (fun i => (i.zero, i.size, i.bytes)) = some (some (.agg #[.int .i64 0, .int .i64 0, .int .i64 0, .int .i64 0, .int .i64 0]), 5, 40) := by kernel_rfl
/-- The commands, copied: from the beginning of a block on. -/
def SlD (l : List Cm) (v : Value) (w : World) : Prop := ∃ ao cap, v = .slice ao l.length cap ∧ (l = [] ∨ ∃ b, ao = some ⟨b, 0, none⟩ ∧ b < w.heap.size ∧ ∀ i (h : i < l.length), w.cell? ⟨b, i * 5, none⟩ = some (.int .i64 (l[i]'h).k) ∧ w.cell? ⟨b, i * 5 + 1, none⟩ = some (.int .i64 (l[i]'h).x) ∧ w.cell? ⟨b, i * 5 + 2, none⟩ = some (.int .i64 (l[i]'h).y) ∧ w.cell? ⟨b, i * 5 + 3, none⟩ = some (.int .i64 (l[i]'h).z) ∧ w.cell? ⟨b, i * 5 + 4, none⟩ = some (.int .i64 (l[i]'h).v))
theorem SlD.rd {l : List Cm} {v : Value} {w : World} (h : SlD l v w) : ∃ ao cap, v = .slice ao l.length cap ∧ RdC w ao l := by
  obtain ⟨ao, cap, e, h⟩ := h
  refine ⟨ao, cap, e, ?_⟩
  rcases h with h | ⟨b, h1, h2, h3⟩
  · exact .inl h
  · refine .inr ⟨b, 0, h1, h2, fun i hi => ?_⟩
    rw [Nat.zero_add]
    exact h3 i hi
theorem SlD.keep {l : List Cm} {v : Value} {w w1 : World} (h : SlD l v w) (hs : w.heap.size ≤ w1.heap.size) (hb : ∀ b, b < w.heap.size → (0 < l.length → ∃ z, w.cell? ⟨b, 0, none⟩ = some (.int .i64 z)) → w1.heap[b]? = w.heap[b]?) : SlD l v w1 := by
  obtain ⟨ao, cap, e, h⟩ := h
  refine ⟨ao, cap, e, ?_⟩
  rcases h with h | ⟨b, h1, h2, h3⟩
  · exact .inl h
  · have hq := hb b h2 fun hl => ⟨_, by have := (h3 0 hl).1; rwa [Nat.zero_mul] at this⟩
    have hc : ∀ k v, w.cell? ⟨b, k, none⟩ = some v → w1.cell? ⟨b, k, none⟩ = some v := fun k v hv => (World.cell?_of_block hq).trans hv
    exact .inr ⟨b, h1, Nat.lt_of_lt_of_le h2 hs, fun i hi => ⟨hc _ _ (h3 i hi).1, hc _ _ (h3 i hi).2.1, hc _ _ (h3 i hi).2.2.1, hc _ _ (h3 i hi).2.2.2.1, hc _ _ (h3 i hi).2.2.2.2⟩⟩
theorem SlD.later {l : List Cm} {v : Value} {w w1 : World} (h : SlD l v w) (hb : Below w.heap.size w w1) : SlD l v w1 := h.keep hb.size fun b hl _ => hb.block b hl
theorem SlD.put {l : List Cm} {v : Value} {w : World} {b : Nat} {cs vs : List Value} (h : SlD l v w) (K : Bk b cs w) (ht : ∃ t, cs[0]? = some (.bool t)) : SlD l v (w.setCells b 0 vs) := by
  by_cases hl : 0 < l.length
  · refine h.keep (low_setCells (Nat.zero_le b) vs 0 w).size fun b2 _ hz => out_setCells ?_ vs 0 w
    rintro rfl
    obtain ⟨z, hz⟩ := hz hl
    obtain ⟨t, ht⟩ := ht
    have := K.c 0 ht
    rw [hz] at this
    cases this
  · obtain ⟨ao, cap, e, _⟩ := h
    exact ⟨ao, cap, e, .inl (List.eq_nil_of_length_eq_zero (by omega))⟩
theorem own_rdD {w : World} {B : Nat} {v : Value} {l : List Cm} (h : OwnR encD w B v l) : SlD l v w := by
  obtain ⟨ao, cap, rfl⟩ := h.shape
  refine ⟨ao, cap, rfl, ?_⟩
  rcases h.read goodD with ⟨rfl, _⟩ | ⟨g, cap', e, _, _, hlt, hc⟩
  · exact .inl rfl
  · injection e with e1 e2 e3
    refine .inr ⟨g, e1, hlt, fun k hk => ?_⟩
    have h0 := hc k hk 0 (by decide)
    have h1 := hc k hk 1 (by decide)
    have h2 := hc k hk 2 (by decide)
    have h3 := hc k hk 3 (by decide)
    have h4 := hc k hk 4 (by decide)
    exact ⟨by simpa [encD] using h0, by simpa [encD] using h1, by simpa [encD] using h2, by simpa [encD] using h3, by simpa [encD] using h4⟩
theorem RdC.rdR {w : World} {ao : Option Addr} {l : List Cm} (h : RdC w ao l) : RdR encD w ao l := by
  rcases h with h | ⟨b, off, e, hlt, hc⟩
  · exact .inl h
  · refine .inr ⟨b, off, e, hlt, fun k hk j hj => ?_⟩
    obtain ⟨h0, h1, h2, h3, h4⟩ := hc k hk
    have hj2 : j = 0 ∨ j = 1 ∨ j = 2 ∨ j = 3 ∨ j = 4 := by simp [encD] at hj; omega
    rcases hj2 with rfl | rfl | rfl | rfl | rfl
    · simpa [encD] using h0
    · simpa [encD] using h1
    · simpa [encD] using h2
    · simpa [encD] using h3
    · simpa [encD] using h4
set_option maxHeartbeats 1600000 in
theorem commands_any (ao : Option Addr) (cap : Nat) (l : List Cm) (w : World) (h : RdC w ao l) (hn : ao = none → cap = 0) (hreach : l.length * 40 ≤ 140737488351232) :
    Calls Tryd.prog 16 #[.slice ao l.length cap] w fun e w' => ∃ v, e = .returned v ∧ SlD l v w' ∧ Below w.heap.size w w' := by
  have HF : Hid (RdC w ao l) := h
  clear h
  cases ao with
  | none =>
    obtain rfl : l = [] := by
      rcases HF.out with h | ⟨b, off, h, _⟩
      · exact h
      · cases h
    rw [hn rfl]
    simp only [List.length_nil]
    go_enter Tryd.func16, Tryd.ntmps16
    go_wp2
    go_ret
    exact ⟨_, rfl, ⟨none, 0, rfl, .inl rfl⟩, Below.refl _ _⟩
  | some a =>
    clear hn
    go_enter Tryd.func16, Tryd.ntmps16
    go_wp2_with (at_builtin; refine wpList_append_list goodD Tryd.underlying42 infoD rfl (by decide) _ rfl (.const (.slice none 0 0)) (.tmp 3) rfl w.heap.size (.slice none 0 0) [] rfl (OwnR.nil _ _ _) a cap l rfl HF.out.rdR (by simp [maxLen]; omega) (by simp; omega) (Nat.le_refl _) ?_; intro v' w1 ho hg _)
    go_ret
    have hr := own_rdD ho
    rw [List.nil_append] at hr
    exact ⟨_, rfl, hr, (Below.refl _ _).grown hg (Nat.le_refl _) (fun k hk => by cases hk)⟩
set_option linter.unusedVariables false in
def frV (m R F : Nat) (r : Rg) (x y : Fm) (e0 : Int) (c : Cm) (bl off len cap k0 : Nat) (i : Nat) (l : List Value) (w : World) : Prop :=
  match i, l with
  | 0, [v] => v = .agg #[.int .i64 r.lo.x, .int .i64 r.lo.y, .int .i64 r.lo.z, .int .i64 r.hi.x, .int .i64 r.hi.y, .int .i64 r.hi.z, .int .i64 r.rp.c, .int .i64 r.rp.f, .int .i64 r.rp.m, .int .i64 r.rp.r, .int .i64 r.ps, .int .i64 r.mo]
  | 1, [v] => v = .agg #[.bool x.hm, .int .i64 x.pt.x, .int .i64 x.pt.y, .int .i64 x.pt.z, .int .i64 x.pl, .bool x.tp, .int .i64 x.ht, .int .i64 x.tu, .int .i64 x.tk]
  | 2, [v] => v = .slice (some ⟨bl, off, none⟩) len cap
  | 3, [v] => v = .int .i64 (k0 : Int)
  | 4, [v] => v = .pointer (some ⟨bl, off + k0 * 5, none⟩)
  | 5, [v] => v = .agg #[.int .i64 c.k, .int .i64 c.x, .int .i64 c.y, .int .i64 c.z, .int .i64 c.v]
  | 6, [v] => v = .tuple #[.agg #[.bool y.hm, .int .i64 y.pt.x, .int .i64 y.pt.y, .int .i64 y.pt.z, .int .i64 y.pl, .bool y.tp, .int .i64 y.ht, .int .i64 y.tu, .int .i64 y.tk], .int .i64 e0]
  | 7, [v] => v = .tuple #[.agg #[.bool y.hm, .int .i64 y.pt.x, .int .i64 y.pt.y, .int .i64 y.pt.z, .int .i64 y.pl, .bool y.tp, .int .i64 y.ht, .int .i64 y.tu, .int .i64 y.tk], .int .i64 e0]
  | 8, [v] => v = .agg #[.bool y.hm, .int .i64 y.pt.x, .int .i64 y.pt.y, .int .i64 y.pt.z, .int .i64 y.pl, .bool y.tp, .int .i64 y.ht, .int .i64 y.tu, .int .i64 y.tk]
  | 9, [v] => v = .int .i64 e0
  | 10, [v] => NwD m v w
  | 11, [v] => IsD m y v w
  | 12, [v] => v = .int .i64 e0
  | _, _ => True
theorem frV_mono (m R F : Nat) (r : Rg) (x y : Fm) (e0 : Int) (c : Cm) (bl off len cap k0 : Nat) (i : Nat) (l : List Value) (w w' : World) (h : frV m R F r x y e0 c bl off len cap k0 i l w) (hb : Below w.heap.size w w') : frV m R F r x y e0 c bl off len cap k0 i l w' := by
  unfold frV at h ⊢
  split <;> simp only [] at h <;> first | exact h | exact NwD.later h hb | exact IsD.later h hb
set_option linter.unusedVariables false in
theorem frV_put (m R F : Nat) (r : Rg) (x y : Fm) (e0 : Int) (c : Cm) (bl off len cap k0 : Nat) (i : Nat) (l : List Value) (w : World) {b : Nat} {cs : List Value} (K : Bk b cs w) (ht : ∃ t, cs[0]? = some (.bool t)) (hl : cs.length = 9) (h : frV m R F r x y e0 c bl off len cap k0 i l w) : frV m R F r x y e0 c bl off len cap k0 i l (w.setCells b 0 (fc y)) := by
  unfold frV at h ⊢
  split <;> simp only [] at h <;> first | exact NwD.put h K hl | exact IsD.put h K hl | exact h
/-- What holds in the loop of FirmRun. -/
structure FrI (r : Rg) (l : List Cm) (R Z F : Nat) (ao : Option Addr) (w : World) (k : Nat) (f : Fm) (W : World) : Prop where
  kr : Bk R (rgc r) W
  kz : Bk Z zfc W
  kf : Bk F (fc f) W
  rd : RdC W ao l
  low : Below w.heap.size w W
  ok : fmOk r f = true
  rest : runC r f0 0 l = runC r f k (l.drop k)
theorem do_step {r : Rg} {f : Fm} {c : Cm} (hr : rgOk r = true) (hf : fmOk r f = true) : DoE r f c = doN r f c ∧ (doN r f c = 0 → DoV r f c = doF r f c) := by
  have e1 : DoE r f c = doN r f c := by unfold DoE; rw [if_neg (by rw [hr]; simp), if_neg (by rw [hf]; simp)]
  refine ⟨e1, fun h => ?_⟩
  unfold DoV doF
  rw [e1, if_pos h, if_pos h]
set_option maxHeartbeats 6400000 in
set_option maxRecDepth 100000 in
theorem firmRun_any (r : Rg) (ao : Option Addr) (cap : Nat) (l : List Cm) (w : World) (h : rgOk r = true) (hR : RdC w ao l) (hl : l.length ≤ 1152921504606846976) :
    Calls Tryd.prog 17 #[rgv r, .slice ao l.length cap] w fun e w' => e = .returned (.tuple #[fv (runC r f0 0 l).1, .int .i64 ((runC r f0 0 l).2.1 : Nat), .int .i64 (runC r f0 0 l).2.2]) ∧ Below w.heap.size w w' := by
  obtain ⟨w0, hw0⟩ : ∃ x, x = ((w.alloc (rgo r)).alloc zfo).alloc zfo := ⟨_, rfl⟩
  have HB0 : Hid (Below w.heap.size w w0) := by show Below _ _ _; rw [hw0]; exact three_new _ _ _ _
  obtain ⟨RV, hRV⟩ : ∃ x, x = runC r f0 0 l := ⟨_, rfl⟩
  have HRV : Hid (RV = runC r f0 0 l) := hRV
  rw [← hRV]
  clear hRV
  have HRg : Hid (rgOk r = true) := h
  have HI0 : Hid (FrI r l w.heap.size (w.heap.size + 1) (w.heap.size + 1 + 1) ao w 0 f0 w0) := by
    refine ⟨?_, ?_, ?_, hR.later HB0.out, HB0.out, fmOk_iff.2 (f0_ok (rgOk_iff.1 h)), rfl⟩
    · rw [hw0]; exact ((Bk.new w (rgc r) 27 w.heap.size rfl).later (one_new _ _)).later (one_new _ _)
    · rw [hw0]; exact (Bk.new (w.alloc (rgo r)) zfc 29 (w.heap.size + 1) (by simp)).later (one_new _ _)
    · rw [hw0]; exact Bk.new ((w.alloc (rgo r)).alloc zfo) zfc 29 (w.heap.size + 1 + 1) (by simp)
  obtain ⟨F, hF⟩ : ∃ b, b = w.heap.size + 1 + 1 := ⟨_, rfl⟩
  obtain ⟨Z, hZ⟩ : ∃ b, b = w.heap.size + 1 := ⟨_, rfl⟩
  obtain ⟨R, hRe⟩ : ∃ b, b = w.heap.size := ⟨_, rfl⟩
  rw [← hF, ← hZ, ← hRe] at HI0
  have HX : Hid (w.heap.size ≤ R ∧ w.heap.size ≤ Z ∧ w.heap.size ≤ F ∧ Z ≠ F ∧ R ≠ F ∧ R ≠ Z) := by show _ ∧ _; omega
  have HRb : Hid (∀ b o, l ≠ [] → ao = some ⟨b, o, none⟩ → b < w.heap.size) := fun b o hne e => by
    rcases hR with h0 | ⟨b', o', h1, h2, _⟩
    · exact absurd h0 hne
    · rw [h1] at e; injection e with e; injection e with e1 e2; omega
  have HDo : Hid (∀ f c W, fmOk r f = true → Calls Tryd.prog 14 #[rgv r, fv f, cmv c] W fun e w' => e = .returned (.tuple #[fv (DoV r f c), .int .i64 (DoE r f c)]) ∧ Below W.heap.size W w') := fun f c W hf => firmDo_any r f c W h hf
  clear h hR
  go_enter Tryd.func17, Tryd.ntmps17
  go_wp2_with fail
  simp only [← hw0, ← hF]
  simp only [← hZ]
  simp only [← hRe]
  clear hw0 hF hZ hRe HB0
  obtain ⟨len, hlen⟩ : ∃ x, x = l.length := ⟨_, rfl⟩
  have HLen : Hid (len = l.length) := hlen
  simp only [← hlen]
  rw [← hlen] at hl
  clear hlen
  go_loopw [8] (fun i wr => ∃ (k : Nat) (f : Fm), k ≤ len ∧ i = .int .i64 (k : Int) ∧ FrI r l R Z F ao w k f wr) (fun i _ => len - (intOf i).toNat)
  case atStart => exact ⟨0, f0, Nat.zero_le _, rfl, HI0.out⟩
  case round =>
    obtain ⟨k0, x, hk, rfl, hI⟩ := hrel
    have HI : Hid (FrI r l R Z F ao w k0 x wr) := hI
    clear hI HI0
    by_cases hlt : k0 < len
    · have hkl : k0 < l.length := by rw [← HLen.out]; exact hlt
      obtain ⟨bl, off, hao, hbw, e0, e1, e2, e3, e4⟩ := HI.out.rd.at hkl
      obtain ⟨c, hc⟩ : ∃ c, c = l[k0]'hkl := ⟨_, rfl⟩
      have HDr : Hid (l.drop k0 = c :: l.drop (k0 + 1)) := by show _ = _; rw [hc]; exact List.drop_eq_getElem_cons hkl
      rw [← hc] at e0 e1 e2 e3 e4
      subst hao
      obtain ⟨E, hE⟩ : ∃ E, E = DoE r x c := ⟨_, rfl⟩
      obtain ⟨y, hy⟩ : ∃ y, y = DoV r x c := ⟨_, rfl⟩
      have HDi : Hid (∀ W, Calls Tryd.prog 14 #[rgv r, fv x, cmv c] W fun e w' => e = .returned (.tuple #[fv y, .int .i64 E]) ∧ Below W.heap.size W w') := fun W => by rw [hE, hy]; exact HDo.out x c W HI.out.ok
      have HEE : Hid (E = doN r x c) := by show _ = _; rw [hE]; exact (do_step HRg.out HI.out.ok).1
      have HYY : Hid (E = 0 → y = doF r x c) := fun h0 => by rw [hy]; exact (do_step HRg.out HI.out.ok).2 (by rw [← HEE.out, h0])
      have KRr : Hid (Bk R (rgc r) wr) := HI.out.kr
      have KFr : Hid (Bk F (fc x) wr) := HI.out.kf
      have HC0 := (show Hid _ from e0)
      have HC1 := (show Hid _ from e1)
      have HC2 := (show Hid _ from e2)
      have HC3 := (show Hid _ from e3)
      have HC4 := (show Hid _ from e4)
      clear hc hE hy e0 e1 e2 e3 e4 hbw
      go_wp2_with fail
      rename_i KK hkk
      have HKK := (show Hid _ from hkk)
      clear hkk
      refine region_all [false, false, false, false, false, false, false, false, false, true, true, false, false, false, false, false, false, false, true, true, true, true, true, true, true, true, true, true, false, false, false, false, false, false, false, false, false]
        [([], [19], none), ([], [20], none), ([], [21], none), ([], [22], none), ([2, 3], [23], none), ([4], [24], none), ([0, 1, 5], [25], none), ([6], [18], none), ([7], [26], none), ([7], [27], none), ([], [9], none), ([10, 8], [9], none), ([9], [10], none)]
        (frV wr.heap.size R F r x y E c bl off len cap k0) (fun _ _ => True) (by kernel_rfl) (by kernel_rfl) (fun _ _ => trivial) ?_ ?_
      · refine ⟨?_, ?_, ?_, ?_, ?_, ?_, ?_, ?_, ?_, ?_, ?_, ?_, ?_, trivial⟩
        · intro f w1 hb hJ _ K hK
          have q0 := (KRr.out.later hb).c 0 rfl
          have q1 := (KRr.out.later hb).c 1 rfl
          have q2 := (KRr.out.later hb).c 2 rfl
          have q3 := (KRr.out.later hb).c 3 rfl
          have q4 := (KRr.out.later hb).c 4 rfl
          have q5 := (KRr.out.later hb).c 5 rfl
          have q6 := (KRr.out.later hb).c 6 rfl
          have q7 := (KRr.out.later hb).c 7 rfl
          have q8 := (KRr.out.later hb).c 8 rfl
          have q9 := (KRr.out.later hb).c 9 rfl
          have q10 := (KRr.out.later hb).c 10 rfl
          have q11 := (KRr.out.later hb).c 11 rfl
          simp only [over, overL, Nat.reduceAdd]
          go_simp
          exact hK _ _ ⟨_, by simp only [over, overL, Nat.reduceAdd]; rfl, rfl, hb, trivial, fun _ h => h⟩
        · intro f w1 hb hJ _ K hK
          have q0 := (KFr.out.later hb).c 0 rfl
          have q1 := (KFr.out.later hb).c 1 rfl
          have q2 := (KFr.out.later hb).c 2 rfl
          have q3 := (KFr.out.later hb).c 3 rfl
          have q4 := (KFr.out.later hb).c 4 rfl
          have q5 := (KFr.out.later hb).c 5 rfl
          have q6 := (KFr.out.later hb).c 6 rfl
          have q7 := (KFr.out.later hb).c 7 rfl
          have q8 := (KFr.out.later hb).c 8 rfl
          simp only [over, overL, Nat.reduceAdd]
          go_simp
          exact hK _ _ ⟨_, by simp only [over, overL, Nat.reduceAdd]; rfl, rfl, hb, trivial, fun _ h => h⟩
        · intro f w1 hb hJ _ K hK
          simp only [over, overL, Nat.reduceAdd]
          go_simp
          exact hK _ _ ⟨_, by simp only [over, overL, Nat.reduceAdd]; rfl, rfl, hb, trivial, fun _ h => h⟩
        · intro f w1 hb hJ _ K hK
          simp only [over, overL, Nat.reduceAdd]
          go_simp
          exact hK _ _ ⟨_, by simp only [over, overL, Nat.reduceAdd]; rfl, rfl, hb, trivial, fun _ h => h⟩
        · intro f w1 hb hJ ⟨h21, h22, _⟩ K hK
          replace h21 : f 21 = _ := h21
          replace h22 : f 22 = _ := h22
          have hlt2 : (k0 : Int) < len := by omega
          simp only [over, overL, Nat.reduceAdd, h21, h22]
          go_simp
          exact hK _ _ ⟨_, by simp only [over, overL, Nat.reduceAdd, h21, h22]; rfl, rfl, hb, trivial, fun _ h => h⟩
        · intro f w1 hb hJ ⟨h23, _⟩ K hK
          replace h23 : f 23 = _ := h23
          have q0 := cell_later hb HC0.out
          have q1 := cell_later hb HC1.out
          have q2 := cell_later hb HC2.out
          have q3 := cell_later hb HC3.out
          have q4 := cell_later hb HC4.out
          simp only [over, overL, Nat.reduceAdd, h23]
          go_simp
          exact hK _ _ ⟨_, by simp only [over, overL, Nat.reduceAdd, h23]; rfl, rfl, hb, trivial, fun _ h => h⟩
        · intro f w1 hb hJ ⟨h19, h20, h24, _⟩ K hK
          replace h19 : f 19 = _ := h19
          replace h20 : f 20 = _ := h20
          replace h24 : f 24 = _ := h24
          simp only [over, overL, Nat.reduceAdd, h19, h20, h24]
          go_simp
          refine Calls.mono (HDi.out _) ?_
          rintro e w2 ⟨rfl, hb2⟩
          exact hK _ _ ⟨_, by simp only [over, overL, Nat.reduceAdd, h19, h20, h24]; rfl, rfl, below_on hb hb2, trivial, fun j h => frV_mono wr.heap.size R F r x y E c bl off len cap k0 j _ _ _ h hb2⟩
        · intro f w1 hb hJ ⟨h25, _⟩ K hK
          replace h25 : f 25 = _ := h25
          simp only [over, overL, Nat.reduceAdd, h25]
          go_simp
          exact hK _ _ ⟨_, by simp only [over, overL, Nat.reduceAdd, h25]; rfl, rfl, hb, trivial, fun _ h => h⟩
        · intro f w1 hb hJ ⟨h18, _⟩ K hK
          replace h18 : f 18 = _ := h18
          simp only [over, overL, Nat.reduceAdd, h18]
          go_simp
          exact hK _ _ ⟨_, by simp only [over, overL, Nat.reduceAdd, h18]; rfl, rfl, hb, trivial, fun _ h => h⟩
        · intro f w1 hb hJ ⟨h18, _⟩ K hK
          replace h18 : f 18 = _ := h18
          simp only [over, overL, Nat.reduceAdd, h18]
          go_simp
          exact hK _ _ ⟨_, by simp only [over, overL, Nat.reduceAdd, h18]; rfl, rfl, hb, trivial, fun _ h => h⟩
        · intro f w1 hb hJ _ K hK
          simp only [over, overL, Nat.reduceAdd]
          go_simp
          exact hK _ _ ⟨_, by simp only [over, overL, Nat.reduceAdd]; rfl, ⟨w1.heap.size, zfc, rfl, hb.size, rfl, ⟨_, rfl⟩, Bk.new w1 zfc 29 w1.heap.size rfl⟩, below_on hb (one_new _ _), trivial, fun j h => frV_mono wr.heap.size R F r x y E c bl off len cap k0 j _ _ _ h (one_new _ _)⟩
        · intro f w1 hb hJ ⟨h9, h26, _⟩ K hK
          replace h26 : f 26 = _ := h26
          obtain ⟨b9, cs9, h9, hm9, hl9, ht9, KB9⟩ := (show NwD _ (f 9) w1 from h9)
          simp only [over, overL, Nat.reduceAdd, h26, h9]
          refine wp_store_mid 29 _ _ rfl b9 0 (fc y).toArray rfl rfl (KB9.there (Nat.le_of_eq (by rw [hl9]; rfl))) info29 (by kernel_rfl) ?_
          exact hK _ _ ⟨undef, by simp only [over, overL, Nat.reduceAdd, h26, h9], ⟨b9, h9, hm9, KB9.setAll (fc y) (by rw [hl9]; rfl)⟩, hb.trans (low_setCells hm9 _ _ _), trivial, fun j h => frV_put wr.heap.size R F r x y E c bl off len cap k0 j _ w1 KB9 ht9 hl9 h⟩
        · intro f w1 hb hJ ⟨h27, _⟩ K hK
          replace h27 : f 27 = _ := h27
          simp only [over, overL, Nat.reduceAdd, h27]
          go_simp
          exact hK _ _ ⟨_, by simp only [over, overL, Nat.reduceAdd, h27]; rfl, rfl, hb, trivial, fun _ h => h⟩
      · intro fs w7 hb7 hJ hv
        have h10 : fs 10 = .int .i64 E := hv.2.2.2.2.2.2.2.2.2.2.2.2.1
        obtain ⟨Y, h9, hY, KY⟩ := (show IsD wr.heap.size y (fs 9) w7 from hv.2.2.2.2.2.2.2.2.2.2.2.1)
        have HB7 : Hid (Below wr.heap.size wr w7) := hb7
        have KF7 : Hid (Bk F (fc x) w7) := KFr.out.later hb7
        have KY7 : Hid (Bk Y (fc y) w7) := KY
        have hFw : F < wr.heap.size := KFr.out.1
        have hFY : F ≠ Y := by omega
        have HFY : Hid (F ≠ Y) := hFY
        simp only [over_eq, overL, h9, h10, Nat.reduceAdd]
        clear hv h9 h10 hb7 hJ KY hY hFw hFY
        refine HKK.out _ _ ?_
        clear HKK
        by_cases hE0 : E = 0
        · obtain ⟨w8, hw8⟩ : ∃ x, x = w7.setCells F 0 (fc y) := ⟨_, rfl⟩
          have HI8 : Hid (FrI r l R Z F (some ⟨bl, off, none⟩) w (k0 + 1) y w8) := by
            have hl8 : Below w.heap.size w7 w8 := by rw [hw8]; exact low_setCells HX.out.2.2.1 _ _ _
            have q7 : Below w.heap.size w w7 := below_on HI.out.low HB7.out
            have hyy := HYY.out hE0
            refine ⟨by rw [hw8]; exact (HI.out.kr.later HB7.out).outD HX.out.2.2.2.2.1, by rw [hw8]; exact (HI.out.kz.later HB7.out).outD HX.out.2.2.2.1, by rw [hw8]; exact KF7.out.setAll _ rfl, (HI.out.rd.later HB7.out).low (N := w.heap.size) hl8 (fun b' o' e => HRb.out b' o' (by intro h0; rw [h0] at hkl; simp at hkl) e), q7.trans hl8, ?_, ?_⟩
            · rw [hyy]; exact fmOk_iff.2 (doF_ok (rgOk_iff.1 HRg.out) (fmOk_iff.1 HI.out.ok))
            · rw [HI.out.rest, HDr.out, runC, if_pos (by rw [← HEE.out, hE0]), hyy]
          have hw9 : w8 = (((((((((w7.setCell ⟨F, 0, none⟩ (.bool y.hm)).setCell ⟨F, 1, none⟩ (.int .i64 y.pt.x)).setCell ⟨F, 2, none⟩ (.int .i64 y.pt.y)).setCell ⟨F, 3, none⟩ (.int .i64 y.pt.z)).setCell ⟨F, 4, none⟩ (.int .i64 y.pl)).setCell ⟨F, 5, none⟩ (.bool y.tp)).setCell ⟨F, 6, none⟩ (.int .i64 y.ht)).setCell ⟨F, 7, none⟩ (.int .i64 y.tu)).setCell ⟨F, 8, none⟩ (.int .i64 y.tk)) := hw8
          have hFY := HFY.out
          have y0 := KY7.out.c 0 rfl
          have x0 := KF7.out.c 0 rfl
          have z0 := KF7.out.f 0 rfl
          have y1 := KY7.out.c 1 rfl
          have x1 := KF7.out.c 1 rfl
          have z1 := KF7.out.f 1 rfl
          have y2 := KY7.out.c 2 rfl
          have x2 := KF7.out.c 2 rfl
          have z2 := KF7.out.f 2 rfl
          have y3 := KY7.out.c 3 rfl
          have x3 := KF7.out.c 3 rfl
          have z3 := KF7.out.f 3 rfl
          have y4 := KY7.out.c 4 rfl
          have x4 := KF7.out.c 4 rfl
          have z4 := KF7.out.f 4 rfl
          have y5 := KY7.out.c 5 rfl
          have x5 := KF7.out.c 5 rfl
          have z5 := KF7.out.f 5 rfl
          have y6 := KY7.out.c 6 rfl
          have x6 := KF7.out.c 6 rfl
          have z6 := KF7.out.f 6 rfl
          have y7 := KY7.out.c 7 rfl
          have x7 := KF7.out.c 7 rfl
          have z7 := KF7.out.f 7 rfl
          have y8 := KY7.out.c 8 rfl
          have x8 := KF7.out.c 8 rfl
          have z8 := KF7.out.f 8 rfl
          clear hw8 HB7 KF7 KY7 HI HYY HEE
          go_wp2_with fail
          simp only [← hw9]
          clear hw9
          go_roundw
          case rel => exact ⟨k0 + 1, _, by omega, by go_num, HI8.out⟩
          case measure => simp [intOf]; omega
        · have HRe : Hid (RV = (x, k0, E)) := by show _ = _; rw [HRV.out, HI.out.rest, HDr.out, runC, if_neg (by rw [← HEE.out]; exact hE0), HEE.out]
          have KZ7 : Hid (Bk Z zfc w7) := HI.out.kz.later HB7.out
          have HL7 : Hid (Below w.heap.size w w7) := below_on HI.out.low HB7.out
          have hZw : w.heap.size ≤ Z := HX.out.2.1
          have x0 := KF7.out.c 0 rfl
          have x1 := KF7.out.c 1 rfl
          have x2 := KF7.out.c 2 rfl
          have x3 := KF7.out.c 3 rfl
          have x4 := KF7.out.c 4 rfl
          have x5 := KF7.out.c 5 rfl
          have x6 := KF7.out.c 6 rfl
          have x7 := KF7.out.c 7 rfl
          have x8 := KF7.out.c 8 rfl
          clear HB7 KY7 HI HYY HEE
          go_wp2_with (refine wpList_store_mid rfl 29 _ _ rfl Z 0 (fc x).toArray rfl rfl (KZ7.out.there (Nat.le_refl _)) info29 (by kernel_rfl) ?_)
          have KZ8 : Hid (Bk Z (fc x) (w7.setCells Z 0 (fc x))) := KZ7.out.setAll _ rfl
          have HB8 : Hid (Below w.heap.size w (w7.setCells Z 0 (fc x))) := HL7.out.trans (low_setCells hZw _ _ _)
          exact bodyPost_ret (v := .tuple #[fv x, .int .i64 (k0 : Int), .int .i64 E]) (results_ctt Tryd.results17 _ _ _ rfl rfl rfl (load29 KZ8.out)) rfl ⟨by rw [HRe.out], HB8.out⟩
    · have hke : k0 = len := by omega
      subst hke
      have HRe : Hid (RV = (x, k0, 0)) := by show _ = _; rw [HRV.out, HI.out.rest, HLen.out, List.drop_length]; rfl
      have KZ7 : Hid (Bk Z zfc wr) := HI.out.kz
      have KF7 : Hid (Bk F (fc x) wr) := HI.out.kf
      have hZw : w.heap.size ≤ Z := HX.out.2.1
      have x0 := KF7.out.c 0 rfl
      have x1 := KF7.out.c 1 rfl
      have x2 := KF7.out.c 2 rfl
      have x3 := KF7.out.c 3 rfl
      have x4 := KF7.out.c 4 rfl
      have x5 := KF7.out.c 5 rfl
      have x6 := KF7.out.c 6 rfl
      have x7 := KF7.out.c 7 rfl
      have x8 := KF7.out.c 8 rfl
      go_wp2_with (refine wpList_store_mid rfl 29 _ _ rfl Z 0 (fc x).toArray rfl rfl (KZ7.out.there (Nat.le_refl _)) info29 (by kernel_rfl) ?_)
      have KZ8 : Hid (Bk Z (fc x) (wr.setCells Z 0 (fc x))) := KZ7.out.setAll _ rfl
      have HB8 : Hid (Below w.heap.size w (wr.setCells Z 0 (fc x))) := HI.out.low.trans (low_setCells hZw _ _ _)
      exact bodyPost_ret (v := .tuple #[fv x, .int .i64 (k0 : Int), .int .i64 0]) (results_ctt Tryd.results17 _ _ _ rfl rfl rfl (load29 KZ8.out)) rfl ⟨by rw [HRe.out], HB8.out⟩
end Go.Proofs.YtgahlhfgpkklaaaDoor
