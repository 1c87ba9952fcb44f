/- What mean does, plainly: places, wells in their order, what wells and tips may hold. -/
import Derived.Test.YtjappkfhballhaaGreatFH
import Derived.Test.YtjappkfhballhaaGreatDC
import Derived.Test.YtjappkfhballhaaGreatAll
namespace Go.Proofs.YtjappkfhballhaaGreat
open Go.RowKit F

/-- A place: slot, row, column. -/
abbrev Plc := Int × Int × Int
/-- Wells with what they hold. -/
abbrev Wls := List (Plc × List Pc)
/-- By slots, columns, rows. -/
def pltB (p q : Plc) : Bool := decide (p.1 < q.1) || (decide (p.1 = q.1) && (decide (p.2.2 < q.2.2) || (decide (p.2.2 = q.2.2) && decide (p.2.1 < q.2.1))))
theorem plt_iff {p q : Plc} : pltB p q = true ↔ p.1 < q.1 ∨ (p.1 = q.1 ∧ (p.2.2 < q.2.2 ∨ (p.2.2 = q.2.2 ∧ p.2.1 < q.2.1))) := by simp [pltB]
theorem plt_trans {p q r : Plc} (h : pltB p q = true) (h2 : pltB q r = true) : pltB p r = true := by
  rw [plt_iff] at *
  omega
theorem plt_ne {p q : Plc} (h : pltB p q = true) : p ≠ q := by
  rintro rfl
  rw [plt_iff] at h
  omega
theorem plt_not {p q : Plc} (h : pltB p q = true) : pltB q p = false := by
  cases h2 : pltB q p with
  | false => rfl
  | true => exact absurd rfl (plt_ne (plt_trans h h2))
theorem plt_total {p q : Plc} (h : p ≠ q) : pltB p q = true ∨ pltB q p = true := by
  rw [plt_iff, plt_iff]
  obtain ⟨a, b, c⟩ := p
  obtain ⟨d, e, f⟩ := q
  simp only [ne_eq, Prod.mk.injEq] at h ⊢
  omega
/-- Wells in their order, none twice. -/
def Rising (ws : Wls) : Prop := ws.Pairwise fun x y => pltB x.1 y.1 = true
/-- What a well holds. -/
def wellF (ws : Wls) (p : Plc) : List Pc := ((ws.find? fun x => x.1 == p).map (·.2)).getD []
def ins (x : Plc × List Pc) : Wls → Wls
  | [] => [x]
  | y :: r => if pltB x.1 y.1 = true then x :: y :: r else y :: ins x r
def wdel (ws : Wls) (p : Plc) : Wls := ws.filter fun x => decide (x.1 ≠ p)
/-- A well has a fluid from now on. -/
def wset (ws : Wls) (p : Plc) (f : List Pc) : Wls := if f = [] then wdel ws p else ins (p, f) (wdel ws p)

theorem mem_ins {x y : Plc × List Pc} {l : Wls} : x ∈ ins y l ↔ x = y ∨ x ∈ l := by
  induction l with
  | nil => simp [ins]
  | cons z r ih =>
    unfold ins
    split
    · simp
    · rw [List.mem_cons, ih, List.mem_cons]
      constructor
      · rintro (h | h | h)
        · exact .inr (.inl h)
        · exact .inl h
        · exact .inr (.inr h)
      · rintro (h | h | h)
        · exact .inr (.inl h)
        · exact .inl h
        · exact .inr (.inr h)
theorem rising_ins {y : Plc × List Pc} {l : Wls} (h : Rising l) (hn : ∀ x ∈ l, x.1 ≠ y.1) : Rising (ins y l) := by
  induction l with
  | nil => simp [ins, Rising]
  | cons z r ih =>
    obtain ⟨h1, h2⟩ := List.pairwise_cons.1 h
    unfold ins
    split
    · rename_i hlt
      refine List.pairwise_cons.2 ⟨fun x hx => ?_, h⟩
      rcases List.mem_cons.1 hx with rfl | hx
      · exact hlt
      · exact plt_trans hlt (h1 x hx)
    · rename_i hlt
      refine List.pairwise_cons.2 ⟨fun x hx => ?_, ih h2 fun x hx => hn x (by simp [hx])⟩
      rcases mem_ins.1 hx with rfl | hx
      · rcases plt_total (hn z (by simp)) with h3 | h3
        · exact h3
        · exact absurd h3 hlt
      · exact h1 x hx
theorem mem_wdel {x : Plc × List Pc} {ws : Wls} {p : Plc} : x ∈ wdel ws p ↔ x ∈ ws ∧ x.1 ≠ p := by simp [wdel]
theorem rising_wdel {ws : Wls} (h : Rising ws) (p : Plc) : Rising (wdel ws p) := List.Pairwise.filter _ h
theorem rising_wset {ws : Wls} (h : Rising ws) (p : Plc) (f : List Pc) : Rising (wset ws p f) := by
  unfold wset
  split
  · exact rising_wdel h p
  · exact rising_ins (rising_wdel h p) fun x hx => (mem_wdel.1 hx).2
theorem mem_wset {x : Plc × List Pc} {ws : Wls} {p : Plc} {f : List Pc} : x ∈ wset ws p f ↔ (x = (p, f) ∧ f ≠ []) ∨ (x ∈ ws ∧ x.1 ≠ p) := by
  unfold wset
  split
  · rename_i h; rw [mem_wdel]; simp [h]
  · rename_i h; rw [mem_ins, mem_wdel]; simp [h]
theorem rising_one {ws : Wls} (h : Rising ws) {x y : Plc × List Pc} (hx : x ∈ ws) (hy : y ∈ ws) (e : x.1 = y.1) : x = y := by
  induction ws with
  | nil => cases hx
  | cons z r ih =>
    obtain ⟨h1, h2⟩ := List.pairwise_cons.1 h
    rcases List.mem_cons.1 hx with ex | hx
    · rcases List.mem_cons.1 hy with ey | hy
      · rw [ex, ey]
      · exact absurd e (plt_ne (by rw [ex]; exact h1 y hy))
    · rcases List.mem_cons.1 hy with ey | hy
      · exact absurd e.symm (plt_ne (by rw [ey]; exact h1 x hx))
      · exact ih h2 hx hy
theorem wellF_mem {ws : Wls} (h : Rising ws) {p : Plc} {f : List Pc} (hm : (p, f) ∈ ws) : wellF ws p = f := by
  unfold wellF
  cases e : ws.find? (fun x => x.1 == p) with
  | none =>
    have := List.find?_eq_none.1 e _ hm
    simp at this
  | some x =>
    have h1 := List.mem_of_find?_eq_some e
    have h2 := List.find?_some e
    have h3 : x.1 = p := by simpa using h2
    have := rising_one h h1 hm h3
    subst this
    rfl
theorem wellF_none {ws : Wls} {p : Plc} (hn : ∀ x ∈ ws, x.1 ≠ p) : wellF ws p = [] := by
  unfold wellF
  rw [List.find?_eq_none.2 fun x hx => by simpa using hn x hx]
  rfl
theorem wellF_cases (ws : Wls) (p : Plc) : ((∀ x ∈ ws, x.1 ≠ p) ∧ wellF ws p = []) ∨ ∃ f, (p, f) ∈ ws ∧ wellF ws p = f := by
  cases e : ws.find? (fun x => x.1 == p) with
  | none =>
    have h : ∀ x ∈ ws, x.1 ≠ p := fun x hx => by simpa using List.find?_eq_none.1 e x hx
    exact .inl ⟨h, wellF_none h⟩
  | some x =>
    have h1 := List.mem_of_find?_eq_some e
    have h2 : x.1 = p := by simpa using List.find?_some e
    refine .inr ⟨x.2, ?_, by unfold wellF; rw [e]; rfl⟩
    rw [← h2]; exact h1
/-- Wells in their order with the same members are the same. -/
theorem rising_unique {a b : Wls} (ha : Rising a) (hb : Rising b) (h : ∀ x, x ∈ a ↔ x ∈ b) : a = b := by
  have nd : ∀ {T : Wls}, Rising T → T.Nodup := fun hT => List.Pairwise.imp (fun {x y} hxy (e : x = y) => plt_ne hxy (by rw [e])) hT
  have hp : a.Perm b := (List.perm_ext_iff_of_nodup (nd ha) (nd hb)).2 h
  exact List.Perm.eq_of_pairwise (fun x y _ _ h1 h2 => absurd h2 (by rw [plt_not h1]; decide)) ha hb hp

/-- All that wells hold. -/
def liq : Wls → Int
  | [] => 0
  | x :: r => tot x.2 + liq r
theorem liq_ins (x : Plc × List Pc) (l : Wls) : liq (ins x l) = tot x.2 + liq l := by
  induction l with
  | nil => rfl
  | cons y r ih =>
    unfold ins
    split
    · rfl
    · simp only [liq, ih]; omega
theorem liq_wdel {ws : Wls} (h : Rising ws) (p : Plc) : liq (wdel ws p) = liq ws - tot (wellF ws p) := by
  induction ws with
  | nil => simp [wdel, liq, wellF, tot]
  | cons y r ih =>
    obtain ⟨h1, h2⟩ := List.pairwise_cons.1 h
    have i := ih h2
    by_cases e : y.1 = p
    · have hn : ∀ x ∈ r, x.1 ≠ p := fun x hx e2 => plt_ne (h1 x hx) (by rw [e, e2])
      have e1 : wdel (y :: r) p = wdel r p := by simp [wdel, e]
      have e2 : wellF (y :: r) p = y.2 := by simp [wellF, e]
      rw [wellF_none hn] at i
      simp only [tot] at i
      rw [e1, e2, i]
      simp only [liq]
      omega
    · have e1 : wdel (y :: r) p = y :: wdel r p := by simp [wdel, e]
      have e2 : wellF (y :: r) p = wellF r p := by simp [wellF, e]
      rw [e1, e2]
      simp only [liq, i]
      omega
theorem liq_wset {ws : Wls} (h : Rising ws) (p : Plc) (f : List Pc) : liq (wset ws p f) = liq ws - tot (wellF ws p) + tot f := by
  unfold wset
  split
  · rename_i e; rw [liq_wdel h, e]; simp only [tot]; omega
  · rw [liq_ins, liq_wdel h]; simp only; omega

/-! ### the deck -/
/-- The seat in a slot. -/
def seatOf (l : List Sit) (n : Int) : Option Sit := l.find? fun s => s.slot == n
/-- The ware whose well a place is. -/
def wareOf (l : List Sit) (p : Plc) : Option Wr := match seatOf l p.1 with
  | some s => if spotOk p.2.1 p.2.2 s.ware.rows s.ware.cols = true then some s.ware else none
  | none => none
/-- How much a plate's well holds. -/
def wellM (l : List Sit) (p : Plc) : Int × Int := match wareOf l p with
  | some a => if a.kind = 1 then (a.cap, 0) else (0, 6)
  | none => (0, 5)
/-- The spots of a rack in a slot. -/
def rackIn (l : List Sit) (n : Int) : List Plc := match seatOf l n with
  | some s => if s.ware.kind = 2 then (spots s.ware.rows.toNat (s.ware.rows.toNat * s.ware.cols.toNat)).map fun p => (n, (p.1 : Int), (p.2 : Int)) else []
  | none => []
def tipsL (l : List Sit) : List Plc := (List.range 12).flatMap fun (k : Nat) => rackIn l ((k : Int) + 1)
def tipM (l : List Sit) : Int := match tipsL l with
  | [] => 0
  | p :: _ => match wareOf l p with
    | some a => a.cap
    | none => 0

/-! ### states and actions -/
structure Sta where
  wells : Wls
  tip : Bool
  held : List Pc
  touched : List ByteArray
  used : Int
  heat : Int
  clock : Int
abbrev sta0 : Sta := ⟨[], false, [], [], 0, 0, 0⟩
structure Acn where
  kind : Int
  pl : Plc
  label : ByteArray
  vol : Int
  value : Int
  time : Int
/-- May something that holds so much have such a fluid? -/
def mayHold (f : List Pc) (m : Int) : Bool := decide (fref f = 0) && decide (plainL f = f) && decide (tot f ≤ m)
def wellOk (l : List Sit) (x : Plc × List Pc) : Bool := decide ((wellM l x.1).2 = 0) && decide (x.2 ≠ []) && mayHold x.2 (wellM l x.1).1
def mayFill (l : List Sit) (ws : Wls) : Bool := ws.all (wellOk l) && decide (ws.Pairwise fun x y => pltB x.1 y.1 = true)
def drops (t : List ByteArray) : List Pc := t.map fun x => (x, 1)
def ltT (a b : ByteArray) : Bool := decide (a.data.toList < b.data.toList)
def mayTouch (t : List ByteArray) (h : List Pc) : Bool := decide (t.length ≤ 100) && decide (t.Pairwise fun a b => ltT a b = true) && (withR h (drops t)).1
def mayTake (l : List Sit) (s : Sta) : Bool :=
  if s.tip = true then inR 1 (tipsL l).length s.used && (mayHold s.held (tipM l) && mayTouch s.touched s.held)
  else inR 0 (tipsL l).length s.used && (decide (s.held = []) && decide (s.touched = []))
def mayB (l : List Sit) (s : Sta) : Bool := mayFill l s.wells && (mayTake l s && (inR 0 1000000000 s.heat && inR 0 1000000000 s.clock))
def mayS (l : List Sit) (s : Sta) : Bool := decide (dchk l = 0) && mayB l s

/-- At the well of an action with a volume. -/
def aimR (l : List Sit) (a : Acn) : Int × Int := if (wellM l a.pl).2 = 0 then (if inR 1 1000000000 a.vol = true then ((wellM l a.pl).1, 0) else ((wellM l a.pl).1, 2)) else wellM l a.pl
/-- A fluid, and another one behind it, in something that holds so much. -/
def togR (f g : List Pc) (m : Int) : List Pc × Int := if m < (totR f).1 + (totR g).1 then ([], 9) else putR f g
def insT (x : ByteArray) : List ByteArray → List ByteArray
  | [] => [x]
  | y :: r => if ltT x y = true then x :: y :: r else if x = y then y :: r else y :: insT x r
/-- The labels of a fluid, rising. -/
def labsR : List Pc → List ByteArray
  | [] => []
  | p :: r => if 0 < p.2 then insT p.1 (labsR r) else labsR r

def fillA (l : List Sit) (s : Sta) (a : Acn) : Sta × Int :=
  if (aimR l a).2 ≠ 0 then (s, (aimR l a).2)
  else if fref [(a.label, a.vol)] ≠ 0 then (s, fref [(a.label, a.vol)])
  else if (togR (wellF s.wells a.pl) [(a.label, a.vol)] (aimR l a).1).2 ≠ 0 then (s, (togR (wellF s.wells a.pl) [(a.label, a.vol)] (aimR l a).1).2)
  else ({ s with wells := wset s.wells a.pl (togR (wellF s.wells a.pl) [(a.label, a.vol)] (aimR l a).1).1 }, 0)
def tipA (l : List Sit) (s : Sta) : Sta × Int :=
  if s.tip = true then (s, 12) else if ((tipsL l).length : Int) ≤ s.used then (s, 19) else ({ s with tip := true, used := s.used + 1 }, 0)
def dropA (s : Sta) : Sta × Int := if s.tip = true then ({ s with tip := false, held := [], touched := [] }, 0) else (s, 12)
def drawA (l : List Sit) (s : Sta) (a : Acn) : Sta × Int :=
  if (aimR l a).2 ≠ 0 then (s, (aimR l a).2)
  else if s.tip = false then (s, 12)
  else if (drawF a.vol (wellF s.wells a.pl)).2.2 ≠ 0 then (s, (drawF a.vol (wellF s.wells a.pl)).2.2)
  else if (withR (drops s.touched) (wellF s.wells a.pl)).1 = false then (s, 11)
  else if (togR s.held (drawF a.vol (wellF s.wells a.pl)).1 (tipM l)).2 ≠ 0 then (s, (togR s.held (drawF a.vol (wellF s.wells a.pl)).1 (tipM l)).2)
  else ({ s with wells := wset s.wells a.pl (drawF a.vol (wellF s.wells a.pl)).2.1, held := (togR s.held (drawF a.vol (wellF s.wells a.pl)).1 (tipM l)).1, touched := labsR (wellF s.wells a.pl) }, 0)
def putA (l : List Sit) (s : Sta) (a : Acn) : Sta × Int :=
  if (aimR l a).2 ≠ 0 then (s, (aimR l a).2)
  else if s.tip = false then (s, 12)
  else if (drawF a.vol s.held).2.2 ≠ 0 then (s, (drawF a.vol s.held).2.2)
  else if (togR (wellF s.wells a.pl) (drawF a.vol s.held).1 (aimR l a).1).2 ≠ 0 then (s, (togR (wellF s.wells a.pl) (drawF a.vol s.held).1 (aimR l a).1).2)
  else ({ s with wells := wset s.wells a.pl (togR (wellF s.wells a.pl) (drawF a.vol s.held).1 (aimR l a).1).1, held := (drawF a.vol s.held).2.1 }, 0)
def warmA (s : Sta) (a : Acn) : Sta × Int := if inR 0 1000000000 a.value = true then ({ s with heat := a.value }, 0) else (s, 2)
def passA (s : Sta) (a : Acn) : Sta × Int :=
  if inR 0 1000000000 a.time = true then (if 1000000000 < s.clock + a.time then (s, 8) else ({ s with clock := s.clock + a.time }, 0)) else (s, 2)
def shakeA (s : Sta) (a : Acn) : Sta × Int := if inR 0 1000000000 a.value = true then passA s a else (s, 2)
/-- What an action does: all of it, or with an error nothing. -/
def doA (l : List Sit) (s : Sta) (a : Acn) : Sta × Int :=
  if a.kind = 5 then fillA l s a else if a.kind = 6 then tipA l s else if a.kind = 7 then dropA s else if a.kind = 8 then drawA l s a
  else if a.kind = 9 then putA l s a else if a.kind = 11 then warmA s a else if a.kind = 12 then passA s a else if a.kind = 13 then shakeA s a
  else if a.kind = 14 then passA s a else (s, 6)
def applyR (l : List Sit) (s : Sta) (a : Acn) : Sta × Int :=
  if mayS l s = true then (if (doA l s a).2 = 0 then ((doA l s a).1, 0) else (sta0, (doA l s a).2)) else (sta0, 17)
/-- Actions, one behind the other: the state, how many, what is wrong. -/
def runA (l : List Sit) : Sta → Nat → List Acn → Sta × Nat × Int
  | s, k, [] => (s, k, 0)
  | s, k, a :: r => if (doA l s a).2 = 0 then runA l (doA l s a).1 (k + 1) r else (s, k, (doA l s a).2)
end Go.Proofs.YtjappkfhballhaaGreat
