/- A Builder of the call's own: written to, read. -/
import Derived.Test.YtpfpfnkagmmanaaGreatDoorLxT
import Derived.Shelf.Strings.BuilderK
namespace Go.Proofs.YtpfpfnkagmmanaaGreatDoor
open Go.RowKit Go.Shelf

theorem Tryz.lays166 : Lays.n166 Tryz.prog Tryz.lays230_ren := { Tryz.lays230 with }
theorem Tryz.lays167 : Lays.n167 Tryz.prog Tryz.lays230_ren := { Tryz.lays230 with }
/-- A Builder in block B holds these bytes. -/
def Bd (w : World) (B : Nat) (a : List UInt8) : Prop := Lib.IsBuilderF 46 5 B B (Lib.byteCells a) w
theorem Bd.new (w : World) : Bd (w.alloc (.cells #[.pointer none, .slice none 0 0] 46)) w.heap.size [] :=
  Lib.IsBuilderF.of (.inl ⟨Nat.le_refl _, .slice none 0 0, by show (w.heap.push _)[w.heap.size]? = _; simp, World.ownsRow_nil _ _ _ _, by simp [Value.ownBlock]⟩)
theorem ownsF_later {w w' : World} {base e k n : Nat} {v : Value} {cs : List Value} (h : w.ownsRowF base e k v n cs) (hb : Below w.heap.size w w') : w'.ownsRowF base e k v n cs := by
  refine ⟨h.1, h.2.elim .inl fun ⟨g, cap, cur, fz, h1, h2, h3, h4⟩ => .inr ⟨g, cap, cur, fz, h1, h2, ?_, h4⟩⟩
  rw [hb.block g (Array.getElem?_eq_some_iff.1 h3).1]; exact h3
theorem bAtF_later {T e B b : Nat} {p : Value} {bs : List Value} {w w' : World} (h : Lib.BuilderAtF T e B b p bs w) (hb : Below w.heap.size w w') : Lib.BuilderAtF T e B b p bs w' := by
  obtain ⟨h1, v, h2, h3, h4⟩ := h
  exact ⟨h1, v, by rw [hb.block b (Array.getElem?_eq_some_iff.1 h2).1]; exact h2, ownsF_later h3 hb, h4⟩
theorem Bd.later {w w' : World} {B : Nat} {a : List UInt8} (h : Bd w B a) (hb : Below w.heap.size w w') : Bd w' B a :=
  h.elim (fun h => .inl (bAtF_later h hb)) (fun h => .inr (bAtF_later h hb))
theorem Bd.lt {w : World} {B : Nat} {a : List UInt8} (h : Bd w B a) : B < w.heap.size := by
  rcases h with ⟨_, v, h2, _⟩ | ⟨_, v, h2, _⟩ <;> exact (Array.getElem?_eq_some_iff.1 h2).1
/-- A token's block. -/
def TkBlk (w : World) (b : Nat) (p : Tk) : Prop := w.heap[b]? = some (.cells #[.int .i64 p.k, .string ⟨p.t.toArray⟩, .int .i64 p.n] 36)
theorem TkBlk.new (w : World) (p : Tk) : TkBlk (w.alloc (.cells #[.int .i64 p.k, .string ⟨p.t.toArray⟩, .int .i64 p.n] 36)) w.heap.size p := by
  show (w.heap.push _)[w.heap.size]? = _; simp
theorem TkBlk.later {w w' : World} {b : Nat} {p : Tk} (h : TkBlk w b p) (hb : Below w.heap.size w w') : TkBlk w' b p := by
  unfold TkBlk at *
  rw [hb.block b (Array.getElem?_eq_some_iff.1 h).1]; exact h
theorem TkBlk.kept {w w' : World} {b B : Nat} {p : Tk} (h : TkBlk w b p) (hk : Lib.OthersKept 5 (some B) w w') (hne : b ≠ B) : TkBlk w' b p :=
  hk b _ h (fun e => hne (Option.some.inj e)) (fun c fz e => by injection e with _ e2 _; exact absurd e2 (by decide))
theorem TkBlk.cells {w : World} {b : Nat} {p : Tk} (h : TkBlk w b p) : w.cell? ⟨b, 0, none⟩ = some (.int .i64 p.k) ∧ w.cell? ⟨b, 1, none⟩ = some (.string ⟨p.t.toArray⟩) ∧ w.cell? ⟨b, 2, none⟩ = some (.int .i64 p.n) := by
  unfold TkBlk at h
  refine ⟨?_, ?_, ?_⟩ <;> simp [World.cell?, h]
theorem bd_len (B : Nat) (a : List UInt8) (w : World) (h : Bd w B a) : Calls Tryz.prog 18 #[ptr B] w fun e w' => e = .returned (.int .i64 (a.length : Int)) ∧ w' = w := by
  have := Any.Builder_Len_f Tryz.lays170 B B _ w h
  rw [Lib.byteCells_length] at this
  exact this
theorem bd_str (B : Nat) (a x : List UInt8) (w : World) (h : Bd w B a) (hl : a.length + x.length ≤ 140737488355328) : Calls Tryz.prog 19 #[ptr B, .string ⟨x.toArray⟩] w fun e w' => ∃ n : Int, e = .returned (.tuple #[.int .i64 n, .nilIface]) ∧ Bd w' B (a ++ x) ∧ Below B w w' ∧ Lib.OthersKept 5 (some B) w w' := by
  refine (Any.Builder_WriteString_k Tryz.lays166 Tryz.Builder_Extra_230 B B (Lib.byteCells a) ⟨x.toArray⟩ w h (by rw [Lib.byteCells_length]; simpa [ByteArray.size] using hl) (Nat.le_of_lt h.lt)).mono ?_
  rintro e w' ⟨rfl, h1, h2, h3⟩
  rw [show Lib.strCells (⟨x.toArray⟩ : ByteArray) = Lib.byteCells x from rfl, ← Lib.byteCells_append] at h1
  exact ⟨_, rfl, .inr h1, h2, h3⟩
theorem bd_byte (B : Nat) (a : List UInt8) (w : World) (h : Bd w B a) (hl : a.length + 1 ≤ 140737488355328) : Calls Tryz.prog 21 #[ptr B, .int .u8 32] w fun e w' => e = .returned .nilIface ∧ Bd w' B (a ++ [32]) ∧ Below B w w' ∧ Lib.OthersKept 5 (some B) w w' := by
  refine (Any.Builder_WriteByte_k Tryz.lays167 Tryz.Builder_Extra_230 B B (Lib.byteCells a) 32 w h (by rw [Lib.byteCells_length]; exact hl) (Nat.le_of_lt h.lt)).mono ?_
  rintro e w' ⟨rfl, h1, h2, h3⟩
  refine ⟨rfl, .inr ?_, h2, h3⟩
  rw [Lib.byteCells_append]
  exact h1
theorem bd_read (B : Nat) (a : List UInt8) (w : World) (h : Bd w B a) : Calls Tryz.prog 23 #[ptr B] w fun e w' => e = .returned (.string ⟨a.toArray⟩) ∧ Below B w w' :=
  (Any.Builder_String_any_f Tryz.lays169 Tryz.Builder_Extra_169 B B a w h (Nat.le_of_lt h.lt)).mono fun _ _ ⟨he, _, hb⟩ => ⟨he, hb⟩
theorem repeat_feed : ∀ c, Lib.repeatL [10] c = List.replicate c 10
  | 0 => rfl
  | c + 1 => by rw [Lib.repeatL, repeat_feed c, List.replicate_succ]; rfl
theorem feeds (c : Nat) (w : World) (hc : c ≤ 10000) : Calls Tryz.prog 20 #[.string ⟨#[10]⟩, .int .i64 (c : Int)] w fun e w' => e = .returned (.string ⟨(List.replicate c (10 : UInt8)).toArray⟩) ∧ Below w.heap.size w w' := by
  have := Tryz.strings_Repeat ⟨#[10]⟩ c w (by omega) (by show 1 * c ≤ _; omega)
  rw [show (⟨#[10]⟩ : ByteArray).data.toList = [10] from rfl, repeat_feed] at this
  exact this
end Go.Proofs.YtpfpfnkagmmanaaGreatDoor
