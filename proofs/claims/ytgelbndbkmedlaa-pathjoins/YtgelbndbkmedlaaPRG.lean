/- straightened walked. -/
import Derived.Test.YtgelbndbkmedlaaPQG
import Derived.Test.YtgelbndbkmedlaaGj
namespace Go.Proofs.Ytgelbndbkmedlaa.S
open Go.RowKit

set_option linter.unusedVariables false in
def st10V (g n cap B mo : Nat) (lst : Int) (z p : Pt) (d : Nat) (v : Value) (_ : World) : Prop :=
  match d with
  | 29 => v = .int .i64 lst
  | 30 => v = .bool true
  | 31 => v = .bool true
  | 32 => v = .slice (some ⟨g, 0, none⟩) n cap
  | 33 => v = .int .i64 lst
  | 34 => v = .pointer (some ⟨g, mo, none⟩)
  | 35 => v = pv z
  | 36 => v = pv p
  | 37 => v = .bool (eqP z p)
  | 38 => v = .bool (eqP z p)
  | 28 => v = .bool (eqP z p)
  | _ => True
set_option linter.unusedVariables false in
theorem st10V_mono (g n cap B mo : Nat) (lst : Int) (z p : Pt) (d : Nat) (v : Value) (w w' : World) (h : st10V g n cap B mo lst z p d v w) (_ : Below w.heap.size w w') : st10V g n cap B mo lst z p d v w' := h
set_option linter.unusedVariables false in
def st10N (sl : Value) (B : Nat) (d : Nat) (v : Value) (_ : World) : Prop :=
  match d with
  | 29 => v = .int .i64 (-1)
  | 30 => v = .bool false
  | 31 => v = .bool false
  | 38 => v = .bool false
  | 28 => v = .bool false
  | _ => True
set_option linter.unusedVariables false in
theorem st10N_mono (sl : Value) (B : Nat) (d : Nat) (v : Value) (w w' : World) (h : st10N sl B d v w) (_ : Below w.heap.size w w') : st10N sl B d v w' := h
set_option linter.unusedVariables false in
def st11V (g n cap B mo k : Nat) (lst : Int) (y z p : Pt) (d : Nat) (v : Value) (_ : World) : Prop :=
  match d with
  | 40 => v = .int .i64 lst
  | 41 => v = .bool true
  | 42 => v = .bool true
  | 43 => v = .slice (some ⟨g, 0, none⟩) n cap
  | 44 => v = .int .i64 lst
  | 45 => v = .int .i64 (k : Int)
  | 46 => v = .pointer (some ⟨g, k * 3, none⟩)
  | 47 => v = pv y
  | 48 => v = .slice (some ⟨g, 0, none⟩) n cap
  | 49 => v = .int .i64 lst
  | 50 => v = .pointer (some ⟨g, mo, none⟩)
  | 51 => v = pv z
  | 52 => v = pv p
  | 53 => v = .bool (strB y z p)
  | 54 => v = .bool (strB y z p)
  | 39 => v = .bool (strB y z p)
  | _ => True
set_option linter.unusedVariables false in
theorem st11V_mono (g n cap B mo k : Nat) (lst : Int) (y z p : Pt) (d : Nat) (v : Value) (w w' : World) (h : st11V g n cap B mo k lst y z p d v w) (_ : Below w.heap.size w w') : st11V g n cap B mo k lst y z p d v w' := h
set_option linter.unusedVariables false in
def st11N (sl : Value) (B : Nat) (lst : Int) (d : Nat) (v : Value) (_ : World) : Prop :=
  match d with
  | 40 => v = .int .i64 lst
  | 41 => v = .bool false
  | 42 => v = .bool false
  | 54 => v = .bool false
  | 39 => v = .bool false
  | _ => True
set_option linter.unusedVariables false in
theorem st11N_mono (sl : Value) (B : Nat) (lst : Int) (d : Nat) (v : Value) (w w' : World) (h : st11N sl B lst d v w) (_ : Below w.heap.size w w') : st11N sl B lst d v w' := h
theorem geq_yes {x y : Int} (h : y ≤ x) (W : World) : (binOp .geq 3 (.int .i64 x) (.int .i64 y)).run Try.prog W = .ok (.bool true) W := by
  have hd : decide (y ≤ x) = true := decide_eq_true h
  go_simp
  try exact hd
theorem geq_no {x y : Int} (h : x < y) (W : World) : (binOp .geq 3 (.int .i64 x) (.int .i64 y)).run Try.prog W = .ok (.bool false) W := by
  have hd : decide (y ≤ x) = false := decide_eq_false (by omega)
  go_simp
  try exact hd
/-- The last point, the one ahead of it. -/
def lastP (K : List Pt) : Pt := (K[K.length - 1]?).getD ⟨0, 0, 0⟩
def penP (K : List Pt) : Pt := (K[K.length - 2]?).getD ⟨0, 0, 0⟩
theorem lastP_at {K : List Pt} {m : Nat} (h : K.length = m + 1) : lastP K = K[m]'(by omega) := by
  unfold lastP
  rw [show K.length - 1 = m by omega, List.getElem?_eq_getElem (by omega)]
  rfl
theorem penP_at {K : List Pt} {m : Nat} (h : K.length = m + 2) : penP K = K[m]'(by omega) := by
  unfold penP
  rw [show K.length - 2 = m by omega, List.getElem?_eq_getElem (by omega)]
  rfl
/-- One point behind those that were kept. -/
def stp (K : List Pt) (p : Pt) : List Pt :=
  if 1 ≤ K.length ∧ eqP (lastP K) p = true then K else if 2 ≤ K.length ∧ strB (penP K) (lastP K) p = true then K.set (K.length - 1) p else K ++ [p]
theorem stp_nil {K : List Pt} (p : Pt) (h : K.length = 0) : stp K p = K ++ [p] := by unfold stp; rw [if_neg (by omega), if_neg (by omega)]
theorem stp_same {K : List Pt} {p : Pt} (h : 1 ≤ K.length) (he : eqP (lastP K) p = true) : stp K p = K := by unfold stp; rw [if_pos ⟨h, he⟩]
theorem stp_one {K : List Pt} {p : Pt} (h : K.length = 1) (he : eqP (lastP K) p = false) : stp K p = K ++ [p] := by unfold stp; rw [if_neg (by rw [he]; simp), if_neg (by omega)]
theorem stp_on {K : List Pt} {p : Pt} (h : 2 ≤ K.length) (he : eqP (lastP K) p = false) (hs : strB (penP K) (lastP K) p = true) : stp K p = K.set (K.length - 1) p := by unfold stp; rw [if_neg (by rw [he]; simp), if_pos ⟨h, hs⟩]
theorem stp_more {K : List Pt} {p : Pt} (he : eqP (lastP K) p = false) (hs : strB (penP K) (lastP K) p = false) : stp K p = K ++ [p] := by unfold stp; rw [if_neg (by rw [he]; simp), if_neg (by rw [hs]; simp)]
theorem stp_len (K : List Pt) (p : Pt) : (stp K p).length ≤ K.length + 1 := by
  unfold stp
  split
  · omega
  · split
    · simp
    · simp
theorem stp_near {K : List Pt} {p : Pt} (hK : ∀ x ∈ K, nearP x = true) (hp : nearP p = true) : ∀ x ∈ stp K p, nearP x = true := by
  intro x hx
  unfold stp at hx
  split at hx
  · exact hK x hx
  · split at hx
    · rcases List.mem_or_eq_of_mem_set hx with hx | rfl
      · exact hK x hx
      · exact hp
    · rcases List.mem_append.1 hx with hx | hx
      · exact hK x hx
      · simp at hx; subst hx; exact hp
theorem fold_near : ∀ {l K : List Pt}, (∀ x ∈ K, nearP x = true) → (∀ x ∈ l, nearP x = true) → ∀ x ∈ l.foldl stp K, nearP x = true
  | [], _, hK, _ => hK
  | p :: r, K, hK, hl => @fold_near r (stp K p) (stp_near hK (hl p (by simp))) fun x hx => hl x (by simp [hx])
theorem fold_len : ∀ {l K : List Pt}, (l.foldl stp K).length ≤ K.length + l.length
  | [], _ => by simp
  | p :: r, K => by
    have h1 := @fold_len r (stp K p)
    have h2 := stp_len K p
    simp only [List.foldl_cons, List.length_cons]
    omega
theorem own_set {w : World} {base g n cap : Nat} {l : List Pt} (h : OwnR encPt w base (.slice (some ⟨g, 0, none⟩) n cap) l) (hn : l.length = n) {m : Nat} (hm : m < n) (p : Pt) :
    OwnR encPt (((w.setCell ⟨g, m * 3, none⟩ (.int .i64 p.x)).setCell ⟨g, m * 3 + 1, none⟩ (.int .i64 p.y)).setCell ⟨g, m * 3 + 2, none⟩ (.int .i64 p.z)) base (.slice (some ⟨g, 0, none⟩) n cap) (l.set m p) := by
  subst hn
  unfold OwnR at *
  rw [List.length_set, ← cells_set hm]
  exact (World.ownsRow.stored (World.ownsRow.stored (World.ownsRow.stored h _ _).1 _ _).1 _ _).1
/-- What is kept, in memory. -/
structure KpI (w : World) (K : List Pt) (v : Value) (wr : World) : Prop where
  own : OwnR encPt wr w.heap.size v K
  near : ∀ x ∈ K, nearP x = true
  below : Below w.heap.size w wr
/-- Ways behind one another in memory. -/
structure Wy where
  (ao : Option Addr)
  (cap : Nat)
  (l : List Pt)
structure Ways (w : World) (g : Nat) (ws : List Wy) : Prop where
  bk : Bk g (ws.map fun x => Value.slice x.ao x.l.length x.cap) w
  pns : ∀ x ∈ ws, Pns w x.ao x.l
  near : ∀ x ∈ ws, ∀ p ∈ x.l, nearP p = true
  len : ∀ x ∈ ws, x.l.length ≤ 1000
  few : ws.length ≤ 1000
theorem Ways.next {w w1 : World} {g : Nat} {ws : List Wy} (h : Ways w g ws) (hb : Below w.heap.size w w1) : Ways w1 g ws := ⟨h.bk.later hb, fun x hx => (h.pns x hx).next hb, h.near, h.len, h.few⟩
def allW (ws : List Wy) : List Pt := ws.flatMap (·.l)
theorem allW_snoc (ws : List Wy) (x : Wy) : allW (ws ++ [x]) = allW ws ++ x.l := by simp [allW]
theorem allW_len : ∀ {ws : List Wy}, (∀ x ∈ ws, x.l.length ≤ 1000) → (allW ws).length ≤ ws.length * 1000
  | [], _ => by simp [allW]
  | x :: r, h => by
    have h1 := allW_len fun y hy => h y (List.mem_cons_of_mem _ hy)
    have h2 := h x List.mem_cons_self
    have e : allW (x :: r) = x.l ++ allW r := rfl
    rw [e, List.length_append, List.length_cons]
    omega
set_option maxHeartbeats 6400000 in
set_option maxRecDepth 100000 in
theorem straightened_any (g c : Nat) (ws : List Wy) (w : World) (hW : Ways w g ws) :
    Calls Try.prog 41 #[.slice (some ⟨g, 0, none⟩) ws.length c] w fun e w' => ∃ v, e = .returned v ∧ KpI w ((allW ws).foldl stp []) v w' := by
  have HW : Hid (Ways w g ws) := hW
  have hfew := hW.few
  clear hW
  go_enter Try.func41, Try.ntmps41
  go_wp2
  go_loopw [3, 11] (fun v i wr => ∃ k : Nat, k ≤ ws.length ∧ i = .int .i64 k ∧ KpI w ((allW (ws.take k)).foldl stp []) v wr) (fun _ i _ => ws.length - (intOf i).toNat)
  case atStart => exact ⟨0, Nat.zero_le _, rfl, ⟨OwnR.nil _ _ _, (fun x hx => by cases hx), Below.refl _ _⟩⟩
  case round =>
    obtain ⟨k, hk, rfl, hK⟩ := hrel
    have HK0 : Hid (KpI w ((allW (ws.take k)).foldl stp []) u3 wr) := hK
    obtain ⟨ao3, cap3, hv3⟩ := hK.own.shape
    clear hK
    by_cases hlt : k < ws.length
    · have HTS : Hid (ws.take (k + 1) = ws.take k ++ [ws[k]'hlt]) := List.take_succ_eq_append_getElem hlt
      have HMB : Hid (ws[k]'hlt ∈ ws) := List.getElem_mem hlt
      have hcell := ((HW.out.next HK0.out.below).bk).c k (by rw [List.getElem?_map, List.getElem?_eq_getElem hlt]; rfl)
      have HAL : Hid ((allW (ws.take k)).length ≤ k * 1000) := by
        have := allW_len (ws := ws.take k) fun x hx => HW.out.len x (List.mem_of_mem_take hx)
        rw [List.length_take, Nat.min_eq_left (by omega)] at this
        exact this
      generalize ws[k]'hlt = x at *
      obtain ⟨ao, cap, l⟩ := x
      simp only at hcell
      have hll : l.length ≤ 1000 := HW.out.len _ HMB.out
      have HPN : Hid (Pns w ao l) := HW.out.pns _ HMB.out
      have HLN : Hid (∀ p ∈ l, nearP p = true) := HW.out.near _ HMB.out
      have HNX : Hid ((allW (ws.take (k + 1))).foldl stp [] = l.foldl stp ((allW (ws.take k)).foldl stp [])) := by show _ = _; rw [HTS.out, allW_snoc, List.foldl_append]
      have hki : (k : Int) < (ws.length : Int) := by omega
      have HK0L : Hid (((allW (ws.take k)).foldl stp []).length ≤ 1000000) := by
        have h1 := @fold_len (allW (ws.take k)) []
        have h2 := HAL.out
        have h3 : k * 1000 ≤ 1000 * 1000 := Nat.mul_le_mul (by omega) (Nat.le_refl _)
        show _ ≤ _
        simp only [List.length_nil] at h1
        omega
      generalize (allW (ws.take k)).foldl stp [] = K0 at *
      subst hv3
      go_wp2_with fail
      go_loopw [3, 17] (fun v i wr => ∃ j : Nat, j ≤ l.length ∧ i = .int .i64 j ∧ KpI w ((l.take j).foldl stp K0) v wr) (fun _ i _ => l.length - (intOf i).toNat)
      case atStart => exact ⟨0, Nat.zero_le _, rfl, HK0.out⟩
      case round =>
        obtain ⟨j, hj, rfl, hK⟩ := hrel
        by_cases hlj : j < l.length
        · have HTJ : Hid ((l.take (j + 1)).foldl stp K0 = stp ((l.take j).foldl stp K0) (l[j]'hlj)) := by show _ = _; rw [List.take_succ_eq_append_getElem hlj, List.foldl_append]; rfl
          have HPP : Hid (nearP (l[j]'hlj) = true) := HLN.out _ (List.getElem_mem hlj)
          obtain ⟨b, off, rfl, _, c0, c1, c2⟩ := (HPN.out.next hK.below).at hlj
          have hKL : ((l.take j).foldl stp K0).length ≤ 2000000 := by
            have h1 := @fold_len (l.take j) K0
            have h2 := HK0L.out
            have h3 := List.length_take_le j l
            omega
          generalize (l.take j).foldl stp K0 = K at *
          generalize l[j]'hlj = p at *
          have HKL : Hid (K.length ≤ 2000000) := hKL
          clear hKL
          have hji : (j : Int) < (l.length : Int) := by omega
          have HKP : Hid (Bk wr.heap.size (pcl p) (wr.alloc (po p))) := Bk.new wr (pcl p) 24 _ rfl
          have KP := HKP
          have q1 : Below wr.heap.size wr (wr.alloc (po p)) := (Below.refl _ _).alloc (Nat.le_refl _) _
          have HKA : Hid (Below wr.heap.size wr (wr.alloc (po p))) := q1
          clear q1
          rcases (show K.length = 0 ∨ ∃ m, K.length = m + 1 from by rcases hq : K.length with _ | m; exact .inl rfl; exact .inr ⟨m, rfl⟩) with hn | ⟨m, hn⟩
          · have HK : Hid (KpI w K _ wr) := hK
            obtain ⟨ao4, cap4, rfl⟩ := hK.own.shape
            clear hK
            have HST : Hid (stp K p = K ++ [p]) := stp_nil p hn
            rw [hn] at HK ⊢
            clear hn
            go_wp2_with fail
            refine region_inv [false, false, false, false, false, false, false, false, false, false, false, false, false, false, false, false, false, false, false, false, false, false, false, false, false, false, false, false, true, true, true, true, true, true, true, true, true, true, true, false, false, false, false, false, false, false, false, false, false, false, false, false, false, false, false, false, false, false, false, false, false, false]
              [(29, [], none), (30, [29], none), (31, [30], none), (32, [31], some (31, true)), (33, [31], some (31, true)), (34, [31, 32, 33], some (31, true)), (35, [31, 34], some (31, true)), (36, [31], some (31, true)), (37, [31, 35, 36], some (31, true)), (38, [31, 37], none), (28, [38], none)]
              (st10N (.slice ao4 0 cap4) wr.heap.size) (by kernel_rfl) (by kernel_rfl) (st10N_mono (.slice ao4 0 cap4) wr.heap.size) ?_ ?_
            · refine ⟨?_, ?_, ?_, ?_, ?_, ?_, ?_, ?_, ?_, ?_, ?_, trivial⟩
              · intro f w1 hb _ K hK
                simp only [over, overL, Nat.reduceAdd]
                go_simp
                exact hK _ _ ⟨_, rfl, by simp only [over, overL, Nat.reduceAdd]; rfl, Below.refl _ _⟩
              · intro f w1 hb ⟨h29, _⟩ K hK
                replace h29 : f 29 = _ := h29
                simp only [over, overL, Nat.reduceAdd, h29]
                refine wp_binop rfl (by go_simp) (geq_no (x := (-1)) (y := 0) (by first | omega | (have := HML.out; omega)) w1) ?_
                exact hK _ _ ⟨_, rfl, by simp only [over, overL, Nat.reduceAdd, h29], Below.refl _ _⟩
              · intro f w1 hb ⟨h30, _⟩ K hK
                replace h30 : f 30 = _ := h30
                simp only [over, overL, Nat.reduceAdd, h30]
                go_simp
                exact hK _ _ ⟨_, rfl, by simp only [over, overL, Nat.reduceAdd, h30]; rfl, Below.refl _ _⟩
              · intro f w1 hb ⟨h31, _⟩
                replace h31 : f 31 = _ := h31
                exact ⟨fun hg => absurd (h31.symm.trans hg) (by simp), fun _ => trivial⟩
              · intro f w1 hb ⟨h31, _⟩
                replace h31 : f 31 = _ := h31
                exact ⟨fun hg => absurd (h31.symm.trans hg) (by simp), fun _ => trivial⟩
              · intro f w1 hb ⟨h31, h32, h33, _⟩
                replace h31 : f 31 = _ := h31
                exact ⟨fun hg => absurd (h31.symm.trans hg) (by simp), fun _ => trivial⟩
              · intro f w1 hb ⟨h31, h34, _⟩
                replace h31 : f 31 = _ := h31
                exact ⟨fun hg => absurd (h31.symm.trans hg) (by simp), fun _ => trivial⟩
              · intro f w1 hb ⟨h31, _⟩
                replace h31 : f 31 = _ := h31
                exact ⟨fun hg => absurd (h31.symm.trans hg) (by simp), fun _ => trivial⟩
              · intro f w1 hb ⟨h31, h35, h36, _⟩
                replace h31 : f 31 = _ := h31
                exact ⟨fun hg => absurd (h31.symm.trans hg) (by simp), fun _ => trivial⟩
              · intro f w1 hb ⟨h31, h37, _⟩ K hK
                replace h31 : f 31 = _ := h31
                simp only [over, overL, Nat.reduceAdd, h31]
                go_simp
                exact hK _ _ ⟨_, rfl, by simp only [over, overL, Nat.reduceAdd, h31]; rfl, Below.refl _ _⟩
              · intro f w1 hb ⟨h38, _⟩ K hK
                replace h38 : f 38 = _ := h38
                simp only [over, overL, Nat.reduceAdd, h38]
                go_simp
                exact hK _ _ ⟨_, rfl, by simp only [over, overL, Nat.reduceAdd, h38]; rfl, Below.refl _ _⟩
            intro f w1 hb hv
            have h28 : f 28 = _ := hv.2.2.2.2.2.2.2.2.2.2.1
            have HBw1 : Hid (Below (wr.alloc (po p)).heap.size (wr.alloc (po p)) w1) := hb
            clear hv hb
            simp only [over_eq, overL, h28, Nat.reduceAdd]
            clear h28
            go_wp2_with fail
            refine region_inv [false, false, false, false, false, false, false, false, false, false, false, false, false, false, false, false, false, false, false, false, false, false, false, false, false, false, false, false, false, false, false, false, false, false, false, false, false, false, false, true, true, true, true, true, true, true, true, true, true, true, true, true, true, true, true, false, false, false, false, false, false, false]
              [(40, [], none), (41, [40], none), (42, [41], none), (43, [42], some (42, true)), (44, [42], some (42, true)), (45, [42, 44], some (42, true)), (46, [42, 43, 45], some (42, true)), (47, [42, 46], some (42, true)), (48, [42], some (42, true)), (49, [42], some (42, true)), (50, [42, 48, 49], some (42, true)), (51, [42, 50], some (42, true)), (52, [42], some (42, true)), (53, [42, 47, 51, 52], some (42, true)), (54, [42, 53], none), (39, [54], none)]
              (st11N (.slice ao4 0 cap4) wr.heap.size (-1)) (by kernel_rfl) (by kernel_rfl) (st11N_mono (.slice ao4 0 cap4) wr.heap.size (-1)) ?_ ?_
            · refine ⟨?_, ?_, ?_, ?_, ?_, ?_, ?_, ?_, ?_, ?_, ?_, ?_, ?_, ?_, ?_, ?_, trivial⟩
              · intro f w1 hb _ K hK
                simp only [over, overL, Nat.reduceAdd]
                go_simp
                exact hK _ _ ⟨_, rfl, by simp only [over, overL, Nat.reduceAdd]; rfl, Below.refl _ _⟩
              · intro f w1 hb ⟨h40, _⟩ K hK
                replace h40 : f 40 = _ := h40
                simp only [over, overL, Nat.reduceAdd, h40]
                refine wp_binop rfl (by go_simp) (geq_no (x := (-1)) (y := 1) (by first | omega | (have := HML.out; omega)) w1) ?_
                exact hK _ _ ⟨_, rfl, by simp only [over, overL, Nat.reduceAdd, h40], Below.refl _ _⟩
              · intro f w1 hb ⟨h41, _⟩ K hK
                replace h41 : f 41 = _ := h41
                simp only [over, overL, Nat.reduceAdd, h41]
                go_simp
                exact hK _ _ ⟨_, rfl, by simp only [over, overL, Nat.reduceAdd, h41]; rfl, Below.refl _ _⟩
              · intro f w1 hb ⟨h42, _⟩
                replace h42 : f 42 = _ := h42
                exact ⟨fun hg => absurd (h42.symm.trans hg) (by simp), fun _ => trivial⟩
              · intro f w1 hb ⟨h42, _⟩
                replace h42 : f 42 = _ := h42
                exact ⟨fun hg => absurd (h42.symm.trans hg) (by simp), fun _ => trivial⟩
              · intro f w1 hb ⟨h42, h44, _⟩
                replace h42 : f 42 = _ := h42
                exact ⟨fun hg => absurd (h42.symm.trans hg) (by simp), fun _ => trivial⟩
              · intro f w1 hb ⟨h42, h43, h45, _⟩
                replace h42 : f 42 = _ := h42
                exact ⟨fun hg => absurd (h42.symm.trans hg) (by simp), fun _ => trivial⟩
              · intro f w1 hb ⟨h42, h46, _⟩
                replace h42 : f 42 = _ := h42
                exact ⟨fun hg => absurd (h42.symm.trans hg) (by simp), fun _ => trivial⟩
              · intro f w1 hb ⟨h42, _⟩
                replace h42 : f 42 = _ := h42
                exact ⟨fun hg => absurd (h42.symm.trans hg) (by simp), fun _ => trivial⟩
              · intro f w1 hb ⟨h42, _⟩
                replace h42 : f 42 = _ := h42
                exact ⟨fun hg => absurd (h42.symm.trans hg) (by simp), fun _ => trivial⟩
              · intro f w1 hb ⟨h42, h48, h49, _⟩
                replace h42 : f 42 = _ := h42
                exact ⟨fun hg => absurd (h42.symm.trans hg) (by simp), fun _ => trivial⟩
              · intro f w1 hb ⟨h42, h50, _⟩
                replace h42 : f 42 = _ := h42
                exact ⟨fun hg => absurd (h42.symm.trans hg) (by simp), fun _ => trivial⟩
              · intro f w1 hb ⟨h42, _⟩
                replace h42 : f 42 = _ := h42
                exact ⟨fun hg => absurd (h42.symm.trans hg) (by simp), fun _ => trivial⟩
              · intro f w1 hb ⟨h42, h47, h51, h52, _⟩
                replace h42 : f 42 = _ := h42
                exact ⟨fun hg => absurd (h42.symm.trans hg) (by simp), fun _ => trivial⟩
              · intro f w1 hb ⟨h42, h53, _⟩ K hK
                replace h42 : f 42 = _ := h42
                simp only [over, overL, Nat.reduceAdd, h42]
                go_simp
                exact hK _ _ ⟨_, rfl, by simp only [over, overL, Nat.reduceAdd, h42]; rfl, Below.refl _ _⟩
              · intro f w1 hb ⟨h54, _⟩ K hK
                replace h54 : f 54 = _ := h54
                simp only [over, overL, Nat.reduceAdd, h54]
                go_simp
                exact hK _ _ ⟨_, rfl, by simp only [over, overL, Nat.reduceAdd, h54]; rfl, Below.refl _ _⟩
            intro f w2 hb hv
            have h39 : f 39 = _ := hv.2.2.2.2.2.2.2.2.2.2.2.2.2.2.2.1
            have HBw2 : Hid (Below (w1).heap.size (w1) w2) := hb
            clear hv hb
            simp only [over_eq, overL, h39, Nat.reduceAdd]
            clear h39
            have HB3 : Hid (Below (wr.alloc (po p)).heap.size (wr.alloc (po p)) w2) := HBw1.out.trans (HBw2.out.mono HBw1.out.size)
            have HB4 : Hid (Below wr.heap.size wr w2) := HKA.out.trans (HB3.out.mono HKA.out.size)
            have HKW : Hid (KpI w K (.slice ao4 0 cap4) w2) := ⟨HK.out.own.later HB4.out, HK.out.near, HK.out.below.trans (HB4.out.mono HK.out.below.size)⟩
            have KPW : Hid (Bk wr.heap.size (pcl p) w2) := HKP.out.later HB3.out
            clear HBw1 HBw2 HB3 HB4 HK HKP KP HKA
            have HOA : Hid (OwnR encPt (w2.alloc (po p)) w.heap.size (.slice ao4 0 cap4) K) := OwnR.alloc HKW.out.own _
            have HCA : Hid (Below w.heap.size w (w2.alloc (po p))) := HKW.out.below.alloc HKW.out.below.size _
            have HSA : Hid (w.heap.size ≤ (w2.alloc (po p)).heap.size) := HCA.out.size
            have HNP : Hid (∀ x ∈ K ++ [p], nearP x = true) := by have := stp_near HKW.out.near HPP.out; rwa [HST.out] at this
            have p0 := (KPW.out).c 0 rfl
            have p1 := (KPW.out).c 1 rfl
            have p2 := (KPW.out).c 2 rfl
            go_wp2_with (at_builtin; refine wpList_append_row goodPt Try.underlying27 infoPt rfl (by decide) (by decide) _ rfl (.tmp 24) (.tmp 26) rfl w.heap.size (.slice ao4 0 cap4) K rfl HOA.out w2.heap.size p rfl (fun j u hu => (Bk.new w2 _ 24 w2.heap.size rfl).c j hu) (by have := HKL.out; omega) HSA.out ?_; intro v7 w7 ho7 hg7 hloc7; have HC7 : Hid (Below w.heap.size w w7) := below_row HCA.out HOA.out hg7 HSA.out; have HO7 : Hid (OwnR encPt w7 w.heap.size v7 (K ++ [p])) := ho7; clear hg7 hloc7 ho7 p0 p1 p2)
            go_roundw
            case rel => exact ⟨j + 1, by omega, by go_num, by rw [HTJ.out, HST.out]; exact ⟨HO7.out, HNP.out, HC7.out⟩⟩
            case measure => simp [intOf]; omega
          · obtain ⟨n, hnn⟩ : ∃ n, n = K.length := ⟨_, rfl⟩
            have HK : Hid (KpI w K _ wr) := hK
            obtain ⟨g4, cap4, rfl, hg4, hc4, hm4, hb4⟩ := own4 hK.own hnn.symm (by omega)
            clear hK
            obtain ⟨z0, z1, z2⟩ := Bk.at3 hb4 (show m < K.length by omega)
            rw [← lastP_at hn] at z0 z1 z2
            have HZ0 : Hid ((wr.alloc (po p)).cell? ⟨g4, m * 3, none⟩ = some (.int .i64 (lastP K).x)) := cell_later HKA.out z0
            have HZ1 : Hid ((wr.alloc (po p)).cell? ⟨g4, m * 3 + 1, none⟩ = some (.int .i64 (lastP K).y)) := cell_later HKA.out z1
            have HZ2 : Hid ((wr.alloc (po p)).cell? ⟨g4, m * 3 + 2, none⟩ = some (.int .i64 (lastP K).z)) := cell_later HKA.out z2
            have HBZ : Hid (Bk g4 (encPt.cells K) wr) := hb4
            have HL1 : Hid (1 ≤ K.length) := by show _ ≤ _; omega
            have HHN : Hid (n = K.length) := hnn
            have HHM : Hid (K.length = m + 1) := hn
            have hmn : (m : Int) < (n : Int) := by omega
            have hn1 : (n : Int) - 1 = (m : Int) := by omega
            have hnb : n ≤ 2000000 := by have := HKL.out; omega
            clear z0 z1 z2 hb4 hnn hn
            go_wp2_with fail
            refine region_inv [false, false, false, false, false, false, false, false, false, false, false, false, false, false, false, false, false, false, false, false, false, false, false, false, false, false, false, false, true, true, true, true, true, true, true, true, true, true, true, false, false, false, false, false, false, false, false, false, false, false, false, false, false, false, false, false, false, false, false, false, false, false]
              [(29, [], none), (30, [29], none), (31, [30], none), (32, [31], some (31, true)), (33, [31], some (31, true)), (34, [31, 32, 33], some (31, true)), (35, [31, 34], some (31, true)), (36, [31], some (31, true)), (37, [31, 35, 36], some (31, true)), (38, [31, 37], none), (28, [38], none)]
              (st10V g4 n cap4 wr.heap.size (m * 3) (m : Int) (lastP K) p) (by kernel_rfl) (by kernel_rfl) (st10V_mono g4 n cap4 wr.heap.size (m * 3) (m : Int) (lastP K) p) ?_ ?_
            · refine ⟨?_, ?_, ?_, ?_, ?_, ?_, ?_, ?_, ?_, ?_, ?_, trivial⟩
              · intro f w1 hb _ K hK
                simp only [over, overL, Nat.reduceAdd]
                go_simp
                exact hK _ _ ⟨_, rfl, by simp only [over, overL, Nat.reduceAdd]; rfl, Below.refl _ _⟩
              · intro f w1 hb ⟨h29, _⟩ K hK
                replace h29 : f 29 = _ := h29
                simp only [over, overL, Nat.reduceAdd, h29]
                refine wp_binop rfl (by go_simp) (geq_yes (x := (m : Int)) (y := 0) (by first | omega | (have := HML.out; omega)) w1) ?_
                exact hK _ _ ⟨_, rfl, by simp only [over, overL, Nat.reduceAdd, h29], Below.refl _ _⟩
              · intro f w1 hb ⟨h30, _⟩ K hK
                replace h30 : f 30 = _ := h30
                simp only [over, overL, Nat.reduceAdd, h30]
                go_simp
                exact hK _ _ ⟨_, rfl, by simp only [over, overL, Nat.reduceAdd, h30]; rfl, Below.refl _ _⟩
              · intro f w1 hb ⟨h31, _⟩
                replace h31 : f 31 = _ := h31
                refine ⟨fun _ => ?_, fun hg => absurd h31 hg⟩
                intro K hK
                simp only [over, overL, Nat.reduceAdd, h31]
                go_simp
                exact hK _ _ ⟨_, rfl, by simp only [over, overL, Nat.reduceAdd, h31]; rfl, Below.refl _ _⟩
              · intro f w1 hb ⟨h31, _⟩
                replace h31 : f 31 = _ := h31
                refine ⟨fun _ => ?_, fun hg => absurd h31 hg⟩
                intro K hK
                simp only [over, overL, Nat.reduceAdd, h31]
                go_simp
                exact hK _ _ ⟨_, rfl, by simp only [over, overL, Nat.reduceAdd, h31]; rfl, Below.refl _ _⟩
              · intro f w1 hb ⟨h31, h32, h33, _⟩
                replace h31 : f 31 = _ := h31
                replace h32 : f 32 = _ := h32
                replace h33 : f 33 = _ := h33
                refine ⟨fun _ => ?_, fun hg => absurd h31 hg⟩
                intro K hK
                simp only [over, overL, Nat.reduceAdd, h31, h32, h33]
                go_simp
                exact hK _ _ ⟨_, rfl, by simp only [over, overL, Nat.reduceAdd, h31, h32, h33]; rfl, Below.refl _ _⟩
              · intro f w1 hb ⟨h31, h34, _⟩
                replace h31 : f 31 = _ := h31
                replace h34 : f 34 = _ := h34
                refine ⟨fun _ => ?_, fun hg => absurd h31 hg⟩
                intro K hK
                have q0 := cell_later hb HZ0.out
                have q1 := cell_later hb HZ1.out
                have q2 := cell_later hb HZ2.out
                simp only [over, overL, Nat.reduceAdd, h31, h34]
                go_simp
                exact hK _ _ ⟨_, rfl, by simp only [over, overL, Nat.reduceAdd, h31, h34]; rfl, Below.refl _ _⟩
              · intro f w1 hb ⟨h31, _⟩
                replace h31 : f 31 = _ := h31
                refine ⟨fun _ => ?_, fun hg => absurd h31 hg⟩
                intro K hK
                have q0 := (KP.out.later hb).c 0 rfl
                have q1 := (KP.out.later hb).c 1 rfl
                have q2 := (KP.out.later hb).c 2 rfl
                simp only [over, overL, Nat.reduceAdd, h31]
                go_simp
                exact hK _ _ ⟨_, rfl, by simp only [over, overL, Nat.reduceAdd, h31]; rfl, Below.refl _ _⟩
              · intro f w1 hb ⟨h31, h35, h36, _⟩
                replace h31 : f 31 = _ := h31
                replace h35 : f 35 = _ := h35
                replace h36 : f 36 = _ := h36
                refine ⟨fun _ => ?_, fun hg => absurd h31 hg⟩
                intro K hK
                simp only [over, overL, Nat.reduceAdd, h31, h35, h36]
                refine wp_binop rfl (by go_simp) (pt_eql _ _ w1) ?_
                exact hK _ _ ⟨_, rfl, by simp only [over, overL, Nat.reduceAdd, h31, h35, h36], Below.refl _ _⟩
              · intro f w1 hb ⟨h31, h37, _⟩ K hK
                replace h31 : f 31 = _ := h31
                replace h37 : f 37 = _ := h37
                simp only [over, overL, Nat.reduceAdd, h31, h37]
                go_simp
                exact hK _ _ ⟨_, rfl, by simp only [over, overL, Nat.reduceAdd, h31, h37]; rfl, Below.refl _ _⟩
              · intro f w1 hb ⟨h38, _⟩ K hK
                replace h38 : f 38 = _ := h38
                simp only [over, overL, Nat.reduceAdd, h38]
                go_simp
                exact hK _ _ ⟨_, rfl, by simp only [over, overL, Nat.reduceAdd, h38]; rfl, Below.refl _ _⟩
            intro f w1 hb hv
            have h28 : f 28 = _ := hv.2.2.2.2.2.2.2.2.2.2.1
            have HBw1 : Hid (Below (wr.alloc (po p)).heap.size (wr.alloc (po p)) w1) := hb
            clear hv hb
            simp only [over_eq, overL, h28, Nat.reduceAdd]
            clear h28
            have HB3 : Hid (Below wr.heap.size wr w1) := HKA.out.trans (HBw1.out.mono HKA.out.size)
            have HKW : Hid (KpI w K (.slice (some ⟨g4, 0, none⟩) n cap4) w1) := ⟨HK.out.own.later HB3.out, HK.out.near, HK.out.below.trans (HB3.out.mono HK.out.below.size)⟩
            have KP1 : Hid (Bk wr.heap.size (pcl p) w1) := HKP.out.later HBw1.out
            cases heq : eqP (lastP K) p with
            | true =>
              have HST : Hid (stp K p = K) := stp_same HL1.out heq
              clear heq
              go_wp2
              go_roundw
              case rel => exact ⟨j + 1, by omega, by go_num, by rw [HTJ.out, HST.out]; exact ⟨HKW.out.own, HKW.out.near, HKW.out.below⟩⟩
              case measure => simp [intOf]; omega
            | false =>
              have HEQ : Hid (eqP (lastP K) p = false) := heq
              clear heq
              go_wp2_with fail
              rcases (show m = 0 ∨ ∃ k, m = k + 1 from by rcases m with _ | k; exact .inl rfl; exact .inr ⟨k, rfl⟩) with hm0 | ⟨k, hk0⟩
              · have HST : Hid (stp K p = K ++ [p]) := stp_one (by rw [HHM.out, hm0]) HEQ.out
                have HML : Hid ((m : Int) < 1) := by show _ < _; omega
                clear hm0
                refine region_inv [false, false, false, false, false, false, false, false, false, false, false, false, false, false, false, false, false, false, false, false, false, false, false, false, false, false, false, false, false, false, false, false, false, false, false, false, false, false, false, true, true, true, true, true, true, true, true, true, true, true, true, true, true, true, true, false, false, false, false, false, false, false]
                  [(40, [], none), (41, [40], none), (42, [41], none), (43, [42], some (42, true)), (44, [42], some (42, true)), (45, [42, 44], some (42, true)), (46, [42, 43, 45], some (42, true)), (47, [42, 46], some (42, true)), (48, [42], some (42, true)), (49, [42], some (42, true)), (50, [42, 48, 49], some (42, true)), (51, [42, 50], some (42, true)), (52, [42], some (42, true)), (53, [42, 47, 51, 52], some (42, true)), (54, [42, 53], none), (39, [54], none)]
                  (st11N (.slice (some ⟨g4, 0, none⟩) n cap4) wr.heap.size (m : Int)) (by kernel_rfl) (by kernel_rfl) (st11N_mono (.slice (some ⟨g4, 0, none⟩) n cap4) wr.heap.size (m : Int)) ?_ ?_
                · refine ⟨?_, ?_, ?_, ?_, ?_, ?_, ?_, ?_, ?_, ?_, ?_, ?_, ?_, ?_, ?_, ?_, trivial⟩
                  · intro f w1 hb _ K hK
                    simp only [over, overL, Nat.reduceAdd]
                    go_simp
                    exact hK _ _ ⟨_, rfl, by simp only [over, overL, Nat.reduceAdd]; rfl, Below.refl _ _⟩
                  · intro f w1 hb ⟨h40, _⟩ K hK
                    replace h40 : f 40 = _ := h40
                    simp only [over, overL, Nat.reduceAdd, h40]
                    refine wp_binop rfl (by go_simp) (geq_no (x := (m : Int)) (y := 1) (by first | omega | (have := HML.out; omega)) w1) ?_
                    exact hK _ _ ⟨_, rfl, by simp only [over, overL, Nat.reduceAdd, h40], Below.refl _ _⟩
                  · intro f w1 hb ⟨h41, _⟩ K hK
                    replace h41 : f 41 = _ := h41
                    simp only [over, overL, Nat.reduceAdd, h41]
                    go_simp
                    exact hK _ _ ⟨_, rfl, by simp only [over, overL, Nat.reduceAdd, h41]; rfl, Below.refl _ _⟩
                  · intro f w1 hb ⟨h42, _⟩
                    replace h42 : f 42 = _ := h42
                    exact ⟨fun hg => absurd (h42.symm.trans hg) (by simp), fun _ => trivial⟩
                  · intro f w1 hb ⟨h42, _⟩
                    replace h42 : f 42 = _ := h42
                    exact ⟨fun hg => absurd (h42.symm.trans hg) (by simp), fun _ => trivial⟩
                  · intro f w1 hb ⟨h42, h44, _⟩
                    replace h42 : f 42 = _ := h42
                    exact ⟨fun hg => absurd (h42.symm.trans hg) (by simp), fun _ => trivial⟩
                  · intro f w1 hb ⟨h42, h43, h45, _⟩
                    replace h42 : f 42 = _ := h42
                    exact ⟨fun hg => absurd (h42.symm.trans hg) (by simp), fun _ => trivial⟩
                  · intro f w1 hb ⟨h42, h46, _⟩
                    replace h42 : f 42 = _ := h42
                    exact ⟨fun hg => absurd (h42.symm.trans hg) (by simp), fun _ => trivial⟩
                  · intro f w1 hb ⟨h42, _⟩
                    replace h42 : f 42 = _ := h42
                    exact ⟨fun hg => absurd (h42.symm.trans hg) (by simp), fun _ => trivial⟩
                  · intro f w1 hb ⟨h42, _⟩
                    replace h42 : f 42 = _ := h42
                    exact ⟨fun hg => absurd (h42.symm.trans hg) (by simp), fun _ => trivial⟩
                  · intro f w1 hb ⟨h42, h48, h49, _⟩
                    replace h42 : f 42 = _ := h42
                    exact ⟨fun hg => absurd (h42.symm.trans hg) (by simp), fun _ => trivial⟩
                  · intro f w1 hb ⟨h42, h50, _⟩
                    replace h42 : f 42 = _ := h42
                    exact ⟨fun hg => absurd (h42.symm.trans hg) (by simp), fun _ => trivial⟩
                  · intro f w1 hb ⟨h42, _⟩
                    replace h42 : f 42 = _ := h42
                    exact ⟨fun hg => absurd (h42.symm.trans hg) (by simp), fun _ => trivial⟩
                  · intro f w1 hb ⟨h42, h47, h51, h52, _⟩
                    replace h42 : f 42 = _ := h42
                    exact ⟨fun hg => absurd (h42.symm.trans hg) (by simp), fun _ => trivial⟩
                  · intro f w1 hb ⟨h42, h53, _⟩ K hK
                    replace h42 : f 42 = _ := h42
                    simp only [over, overL, Nat.reduceAdd, h42]
                    go_simp
                    exact hK _ _ ⟨_, rfl, by simp only [over, overL, Nat.reduceAdd, h42]; rfl, Below.refl _ _⟩
                  · intro f w1 hb ⟨h54, _⟩ K hK
                    replace h54 : f 54 = _ := h54
                    simp only [over, overL, Nat.reduceAdd, h54]
                    go_simp
                    exact hK _ _ ⟨_, rfl, by simp only [over, overL, Nat.reduceAdd, h54]; rfl, Below.refl _ _⟩
                intro f w2 hb hv
                have h39 : f 39 = _ := hv.2.2.2.2.2.2.2.2.2.2.2.2.2.2.2.1
                have HBw2 : Hid (Below (w1).heap.size (w1) w2) := hb
                clear hv hb
                simp only [over_eq, overL, h39, Nat.reduceAdd]
                clear h39
                have KPW : Hid (Bk wr.heap.size (pcl p) w2) := KP1.out.later HBw2.out
                have HKW2 : Hid (KpI w K (.slice (some ⟨g4, 0, none⟩) n cap4) w2) := ⟨HKW.out.own.later HBw2.out, HKW.out.near, HKW.out.below.trans (HBw2.out.mono HKW.out.below.size)⟩
                clear HKW
                have HKW := HKW2
                have HOA : Hid (OwnR encPt (w2.alloc (po p)) w.heap.size (.slice (some ⟨g4, 0, none⟩) n cap4) K) := OwnR.alloc HKW.out.own _
                have HCA : Hid (Below w.heap.size w (w2.alloc (po p))) := HKW.out.below.alloc HKW.out.below.size _
                have HSA : Hid (w.heap.size ≤ (w2.alloc (po p)).heap.size) := HCA.out.size
                have HNP : Hid (∀ x ∈ K ++ [p], nearP x = true) := by have := stp_near HKW.out.near HPP.out; rwa [HST.out] at this
                have p0 := (KPW.out).c 0 rfl
                have p1 := (KPW.out).c 1 rfl
                have p2 := (KPW.out).c 2 rfl
                go_wp2_with (at_builtin; refine wpList_append_row goodPt Try.underlying27 infoPt rfl (by decide) (by decide) _ rfl (.tmp 24) (.tmp 26) rfl w.heap.size (.slice (some ⟨g4, 0, none⟩) n cap4) K rfl HOA.out w2.heap.size p rfl (fun j u hu => (Bk.new w2 _ 24 w2.heap.size rfl).c j hu) (by have := HKL.out; omega) HSA.out ?_; intro v7 w7 ho7 hg7 hloc7; have HC7 : Hid (Below w.heap.size w w7) := below_row HCA.out HOA.out hg7 HSA.out; have HO7 : Hid (OwnR encPt w7 w.heap.size v7 (K ++ [p])) := ho7; clear hg7 hloc7 ho7 p0 p1 p2)
                go_roundw
                case rel => exact ⟨j + 1, by omega, by go_num, by rw [HTJ.out, HST.out]; exact ⟨HO7.out, HNP.out, HC7.out⟩⟩
                case measure => simp [intOf]; omega
              · have hkm : (k : Int) < (n : Int) := by omega
                have hm1 : (1 : Int) ≤ (m : Int) := by omega
                have hmK : m < K.length := by rw [HHM.out]; omega
                have hkK : K.length = k + 2 := by rw [HHM.out]; omega
                have hsm : K.length - 1 = m := by rw [HHM.out]; omega
                have HV : Hid (Value.int .i64 (IntKind.i64.wrap ((m : Int) - 1)) = .int .i64 (k : Int)) := by
                  show _ = _
                  rw [wrap_is (by omega) (by omega)]
                  congr 1
                  omega
                obtain ⟨y0, y1, y2⟩ := Bk.at3 (HBZ.out.later HB3.out) (show k < K.length by omega)
                rw [← penP_at hkK] at y0 y1 y2
                have HY0 : Hid (w1.cell? ⟨g4, k * 3, none⟩ = some (.int .i64 (penP K).x)) := y0
                have HY1 : Hid (w1.cell? ⟨g4, k * 3 + 1, none⟩ = some (.int .i64 (penP K).y)) := y1
                have HY2 : Hid (w1.cell? ⟨g4, k * 3 + 2, none⟩ = some (.int .i64 (penP K).z)) := y2
                have HZ0 : Hid (w1.cell? ⟨g4, m * 3, none⟩ = some (.int .i64 (lastP K).x)) := cell_later HBw1.out HZ0.out
                have HZ1 : Hid (w1.cell? ⟨g4, m * 3 + 1, none⟩ = some (.int .i64 (lastP K).y)) := cell_later HBw1.out HZ1.out
                have HZ2 : Hid (w1.cell? ⟨g4, m * 3 + 2, none⟩ = some (.int .i64 (lastP K).z)) := cell_later HBw1.out HZ2.out
                have KP := KP1
                have HIS : Hid (∀ W, Calls Try.prog 65 #[pv (penP K), pv (lastP K), pv p] W fun e w' => e = .returned (.bool (strB (penP K) (lastP K) p)) ∧ Below W.heap.size W w') := fun W =>
                  isStraight_any _ _ _ W (by rw [penP_at hkK]; exact HKW.out.near _ (List.getElem_mem _)) (by rw [lastP_at HHM.out]; exact HKW.out.near _ (List.getElem_mem _)) HPP.out
                have HKI : Hid (2 ≤ K.length) := by show _ ≤ _; omega
                have HMK : Hid (m < K.length) := hmK
                have HSM : Hid (K.length - 1 = m) := hsm
                clear y0 y1 y2 hmK hkK hsm hk0
                refine region_inv [false, false, false, false, false, false, false, false, false, false, false, false, false, false, false, false, false, false, false, false, false, false, false, false, false, false, false, false, false, false, false, false, false, false, false, false, false, false, false, true, true, true, true, true, true, true, true, true, true, true, true, true, true, true, true, false, false, false, false, false, false, false]
                  [(40, [], none), (41, [40], none), (42, [41], none), (43, [42], some (42, true)), (44, [42], some (42, true)), (45, [42, 44], some (42, true)), (46, [42, 43, 45], some (42, true)), (47, [42, 46], some (42, true)), (48, [42], some (42, true)), (49, [42], some (42, true)), (50, [42, 48, 49], some (42, true)), (51, [42, 50], some (42, true)), (52, [42], some (42, true)), (53, [42, 47, 51, 52], some (42, true)), (54, [42, 53], none), (39, [54], none)]
                  (st11V g4 n cap4 wr.heap.size (m * 3) k (m : Int) (penP K) (lastP K) p) (by kernel_rfl) (by kernel_rfl) (st11V_mono g4 n cap4 wr.heap.size (m * 3) k (m : Int) (penP K) (lastP K) p) ?_ ?_
                · refine ⟨?_, ?_, ?_, ?_, ?_, ?_, ?_, ?_, ?_, ?_, ?_, ?_, ?_, ?_, ?_, ?_, trivial⟩
                  · intro f w1 hb _ K hK
                    simp only [over, overL, Nat.reduceAdd]
                    go_simp
                    exact hK _ _ ⟨_, rfl, by simp only [over, overL, Nat.reduceAdd]; rfl, Below.refl _ _⟩
                  · intro f w1 hb ⟨h40, _⟩ K hK
                    replace h40 : f 40 = _ := h40
                    simp only [over, overL, Nat.reduceAdd, h40]
                    refine wp_binop rfl (by go_simp) (geq_yes (x := (m : Int)) (y := 1) (by first | omega | (have := HML.out; omega)) w1) ?_
                    exact hK _ _ ⟨_, rfl, by simp only [over, overL, Nat.reduceAdd, h40], Below.refl _ _⟩
                  · intro f w1 hb ⟨h41, _⟩ K hK
                    replace h41 : f 41 = _ := h41
                    simp only [over, overL, Nat.reduceAdd, h41]
                    go_simp
                    exact hK _ _ ⟨_, rfl, by simp only [over, overL, Nat.reduceAdd, h41]; rfl, Below.refl _ _⟩
                  · intro f w1 hb ⟨h42, _⟩
                    replace h42 : f 42 = _ := h42
                    refine ⟨fun _ => ?_, fun hg => absurd h42 hg⟩
                    intro K hK
                    simp only [over, overL, Nat.reduceAdd, h42]
                    go_simp
                    exact hK _ _ ⟨_, rfl, by simp only [over, overL, Nat.reduceAdd, h42]; rfl, Below.refl _ _⟩
                  · intro f w1 hb ⟨h42, _⟩
                    replace h42 : f 42 = _ := h42
                    refine ⟨fun _ => ?_, fun hg => absurd h42 hg⟩
                    intro K hK
                    simp only [over, overL, Nat.reduceAdd, h42]
                    go_simp
                    exact hK _ _ ⟨_, rfl, by simp only [over, overL, Nat.reduceAdd, h42]; rfl, Below.refl _ _⟩
                  · intro f w1 hb ⟨h42, h44, _⟩
                    replace h42 : f 42 = _ := h42
                    replace h44 : f 44 = _ := h44
                    refine ⟨fun _ => ?_, fun hg => absurd h42 hg⟩
                    intro K hK
                    simp only [over, overL, Nat.reduceAdd, h42, h44]
                    go_simp
                    exact hK _ _ ⟨_, HV.out, by simp only [over, overL, Nat.reduceAdd, h42, h44]; rfl, Below.refl _ _⟩
                  · intro f w1 hb ⟨h42, h43, h45, _⟩
                    replace h42 : f 42 = _ := h42
                    replace h43 : f 43 = _ := h43
                    replace h45 : f 45 = _ := h45
                    refine ⟨fun _ => ?_, fun hg => absurd h42 hg⟩
                    intro K hK
                    simp only [over, overL, Nat.reduceAdd, h42, h43, h45]
                    go_simp
                    exact hK _ _ ⟨_, rfl, by simp only [over, overL, Nat.reduceAdd, h42, h43, h45]; rfl, Below.refl _ _⟩
                  · intro f w1 hb ⟨h42, h46, _⟩
                    replace h42 : f 42 = _ := h42
                    replace h46 : f 46 = _ := h46
                    refine ⟨fun _ => ?_, fun hg => absurd h42 hg⟩
                    intro K hK
                    have q0 := cell_later hb HY0.out
                    have q1 := cell_later hb HY1.out
                    have q2 := cell_later hb HY2.out
                    simp only [over, overL, Nat.reduceAdd, h42, h46]
                    go_simp
                    exact hK _ _ ⟨_, rfl, by simp only [over, overL, Nat.reduceAdd, h42, h46]; rfl, Below.refl _ _⟩
                  · intro f w1 hb ⟨h42, _⟩
                    replace h42 : f 42 = _ := h42
                    refine ⟨fun _ => ?_, fun hg => absurd h42 hg⟩
                    intro K hK
                    simp only [over, overL, Nat.reduceAdd, h42]
                    go_simp
                    exact hK _ _ ⟨_, rfl, by simp only [over, overL, Nat.reduceAdd, h42]; rfl, Below.refl _ _⟩
                  · intro f w1 hb ⟨h42, _⟩
                    replace h42 : f 42 = _ := h42
                    refine ⟨fun _ => ?_, fun hg => absurd h42 hg⟩
                    intro K hK
                    simp only [over, overL, Nat.reduceAdd, h42]
                    go_simp
                    exact hK _ _ ⟨_, rfl, by simp only [over, overL, Nat.reduceAdd, h42]; rfl, Below.refl _ _⟩
                  · intro f w1 hb ⟨h42, h48, h49, _⟩
                    replace h42 : f 42 = _ := h42
                    replace h48 : f 48 = _ := h48
                    replace h49 : f 49 = _ := h49
                    refine ⟨fun _ => ?_, fun hg => absurd h42 hg⟩
                    intro K hK
                    simp only [over, overL, Nat.reduceAdd, h42, h48, h49]
                    go_simp
                    exact hK _ _ ⟨_, rfl, by simp only [over, overL, Nat.reduceAdd, h42, h48, h49]; rfl, Below.refl _ _⟩
                  · intro f w1 hb ⟨h42, h50, _⟩
                    replace h42 : f 42 = _ := h42
                    replace h50 : f 50 = _ := h50
                    refine ⟨fun _ => ?_, fun hg => absurd h42 hg⟩
                    intro K hK
                    have q0 := cell_later hb HZ0.out
                    have q1 := cell_later hb HZ1.out
                    have q2 := cell_later hb HZ2.out
                    simp only [over, overL, Nat.reduceAdd, h42, h50]
                    go_simp
                    exact hK _ _ ⟨_, rfl, by simp only [over, overL, Nat.reduceAdd, h42, h50]; rfl, Below.refl _ _⟩
                  · intro f w1 hb ⟨h42, _⟩
                    replace h42 : f 42 = _ := h42
                    refine ⟨fun _ => ?_, fun hg => absurd h42 hg⟩
                    intro K hK
                    have q0 := (KP.out.later hb).c 0 rfl
                    have q1 := (KP.out.later hb).c 1 rfl
                    have q2 := (KP.out.later hb).c 2 rfl
                    simp only [over, overL, Nat.reduceAdd, h42]
                    go_simp
                    exact hK _ _ ⟨_, rfl, by simp only [over, overL, Nat.reduceAdd, h42]; rfl, Below.refl _ _⟩
                  · intro f w1 hb ⟨h42, h47, h51, h52, _⟩
                    replace h42 : f 42 = _ := h42
                    replace h47 : f 47 = _ := h47
                    replace h51 : f 51 = _ := h51
                    replace h52 : f 52 = _ := h52
                    refine ⟨fun _ => ?_, fun hg => absurd h42 hg⟩
                    intro K hK
                    simp only [over, overL, Nat.reduceAdd, h42, h47, h51, h52]
                    go_simp
                    refine Calls.mono (HIS.out w1) ?_
                    rintro e w2 ⟨rfl, hb2⟩
                    exact hK _ _ ⟨_, rfl, by simp only [over, overL, Nat.reduceAdd, h42, h47, h51, h52]; rfl, hb2⟩
                  · intro f w1 hb ⟨h42, h53, _⟩ K hK
                    replace h42 : f 42 = _ := h42
                    replace h53 : f 53 = _ := h53
                    simp only [over, overL, Nat.reduceAdd, h42, h53]
                    go_simp
                    exact hK _ _ ⟨_, rfl, by simp only [over, overL, Nat.reduceAdd, h42, h53]; rfl, Below.refl _ _⟩
                  · intro f w1 hb ⟨h54, _⟩ K hK
                    replace h54 : f 54 = _ := h54
                    simp only [over, overL, Nat.reduceAdd, h54]
                    go_simp
                    exact hK _ _ ⟨_, rfl, by simp only [over, overL, Nat.reduceAdd, h54]; rfl, Below.refl _ _⟩
                intro f w2 hb hv
                have h39 : f 39 = _ := hv.2.2.2.2.2.2.2.2.2.2.2.2.2.2.2.1
                have HBw2 : Hid (Below (w1).heap.size (w1) w2) := hb
                clear hv hb
                simp only [over_eq, overL, h39, Nat.reduceAdd]
                clear h39
                have KPW : Hid (Bk wr.heap.size (pcl p) w2) := KP1.out.later HBw2.out
                have HKW2 : Hid (KpI w K (.slice (some ⟨g4, 0, none⟩) n cap4) w2) := ⟨HKW.out.own.later HBw2.out, HKW.out.near, HKW.out.below.trans (HBw2.out.mono HKW.out.below.size)⟩
                have HBM : Hid (Bk g4 (encPt.cells K) w2) := (HBZ.out.later HB3.out).later HBw2.out
                clear HKW
                have HKW := HKW2
                cases hst : strB (penP K) (lastP K) p with
                | true =>
                  have HST : Hid (stp K p = K.set m p) := by show _ = _; rw [stp_on HKI.out HEQ.out hst, HSM.out]
                  have HNP : Hid (∀ x ∈ K.set m p, nearP x = true) := by have := stp_near HKW.out.near HPP.out; rwa [HST.out] at this
                  have HOS := (show Hid _ from own_set HKW.out.own HHN.out.symm (show m < n by omega) p)
                  have HBS : Hid (Below w.heap.size w (((w2.setCell ⟨g4, m * 3, none⟩ (.int .i64 p.x)).setCell ⟨g4, m * 3 + 1, none⟩ (.int .i64 p.y)).setCell ⟨g4, m * 3 + 2, none⟩ (.int .i64 p.z))) := ((HKW.out.below.setCell hg4 _).setCell hg4 _).setCell hg4 _
                  obtain ⟨s0, s1, s2⟩ := Bk.at3 HBM.out HMK.out
                  obtain ⟨f0, f1, f2⟩ := Bk.fr3 HBM.out HMK.out
                  have p0 := (KPW.out).c 0 rfl
                  have p1 := (KPW.out).c 1 rfl
                  have p2 := (KPW.out).c 2 rfl
                  clear hst
                  go_wp2
                  go_roundw
                  case rel => exact ⟨j + 1, by omega, by go_num, by rw [HTJ.out, HST.out]; exact ⟨HOS.out, HNP.out, HBS.out⟩⟩
                  case measure => simp [intOf]; omega
                | false =>
                  have HST : Hid (stp K p = K ++ [p]) := stp_more HEQ.out hst
                  clear hst
                  have HOA : Hid (OwnR encPt (w2.alloc (po p)) w.heap.size (.slice (some ⟨g4, 0, none⟩) n cap4) K) := OwnR.alloc HKW.out.own _
                  have HCA : Hid (Below w.heap.size w (w2.alloc (po p))) := HKW.out.below.alloc HKW.out.below.size _
                  have HSA : Hid (w.heap.size ≤ (w2.alloc (po p)).heap.size) := HCA.out.size
                  have HNP : Hid (∀ x ∈ K ++ [p], nearP x = true) := by have := stp_near HKW.out.near HPP.out; rwa [HST.out] at this
                  have p0 := (KPW.out).c 0 rfl
                  have p1 := (KPW.out).c 1 rfl
                  have p2 := (KPW.out).c 2 rfl
                  go_wp2_with (at_builtin; refine wpList_append_row goodPt Try.underlying27 infoPt rfl (by decide) (by decide) _ rfl (.tmp 24) (.tmp 26) rfl w.heap.size (.slice (some ⟨g4, 0, none⟩) n cap4) K rfl HOA.out w2.heap.size p rfl (fun j u hu => (Bk.new w2 _ 24 w2.heap.size rfl).c j hu) (by have := HKL.out; omega) HSA.out ?_; intro v7 w7 ho7 hg7 hloc7; have HC7 : Hid (Below w.heap.size w w7) := below_row HCA.out HOA.out hg7 HSA.out; have HO7 : Hid (OwnR encPt w7 w.heap.size v7 (K ++ [p])) := ho7; clear hg7 hloc7 ho7 p0 p1 p2)
                  go_roundw
                  case rel => exact ⟨j + 1, by omega, by go_num, by rw [HTJ.out, HST.out]; exact ⟨HO7.out, HNP.out, HC7.out⟩⟩
                  case measure => simp [intOf]; omega
        · have HE : Hid ((l.take j).foldl stp K0 = l.foldl stp K0) := by show _ = _; rw [List.take_of_length_le (by omega)]
          go_wp2
          go_roundw
          case rel =>
            refine ⟨k + 1, by omega, by go_num, ?_⟩
            have := hK
            rw [HE.out] at this
            rw [HNX.out]
            exact this
          case measure => simp [intOf]; omega
    · have HE : Hid ((allW (ws.take k)).foldl stp [] = (allW ws).foldl stp []) := by show _ = _; rw [List.take_of_length_le (by omega)]
      subst hv3
      go_wp2
      go_ret
      refine ⟨.slice ao3 ((allW (ws.take k)).foldl stp []).length cap3, rfl, ?_⟩
      have := HK0.out
      rw [HE.out] at this ⊢
      exact this
end Go.Proofs.Ytgelbndbkmedlaa.S
