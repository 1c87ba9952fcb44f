/- The law DeckBack walked: its beginning. -/
import Derived.Test.YtmmpaaaifdikdaaGreatDoorDQ
import Derived.Test.YtmmpaaaifdikdaaGreatDoorDM
import Derived.Test.YtmmpaaaifdikdaaGreatDoorSC
import Derived.Test.YtmmpaaaifdikdaaGreatDoorSeq2
namespace Go.Proofs.YtmmpaaaifdikdaaGreatDoor
open Go.RowKit Go.Shelf

theorem con_arr2 : (⟨#[50, 32, 116, 32, 116, 32, 116, 114, 97, 115, 104, 32, 49, 32, 49, 32, 53, 32, 53, 32, 48, 32, 49, 48, 32, 49, 48, 32, 49, 48, 32, 53, 32, 48, 10]⟩ : ByteArray) = ⟨(conL ++ [10]).toArray⟩ := rfl
theorem S.apart_is (ao : Option Addr) (cap : Nat) (l : List Sit) (w : World) (hL : S.Bxs w ao (l.map boxOf)) (hcap : l.length ≤ cap) (hg : Good l) :
    Calls Tryz.prog 15 #[.slice ao l.length cap] w fun e w' => e = .returned (.tuple #[.int .i64 (-1), .int .i64 (-1), .int .i64 0]) ∧ Below w.heap.size w w' := by
  have := S.apart_ok ao cap (l.map boxOf) (-1) (-1) w hL (by rw [List.length_map]; exact hcap) (boxes_rlist hg) (boxes_apart hg)
  rw [List.length_map] at this
  exact this
theorem deckBack_start (w : World) (hT : Tabs w) : Calls Tryz.prog 9 #[.string ⟨(conL ++ [10]).toArray⟩] w fun e w' => ∃ b1 off1 cap1, e = .returned (.tuple #[.slice (some ⟨b1, off1, none⟩) 1 cap1, .int .i64 0, .int .i64 0]) ∧ w'.cell? ⟨b1, off1, none⟩ = some (.int .i64 2) ∧ Below w.heap.size w w' := by
  refine (con_read2 w hT).mono ?_
  rintro e w' ⟨v, rfl, ⟨base, _, ho⟩, hb⟩
  obtain ⟨ao1, cap1, rfl, hs, _⟩ := ho.shape
  obtain ⟨b1, off1, rfl, hat⟩ := hs.at (k := 0) (by simp)
  refine ⟨b1, off1, cap1, rfl, ?_, hb⟩
  have := hat.c0
  simpa [conS] using this
set_option maxHeartbeats 3200000 in
set_option maxRecDepth 100000 in
theorem deckBack_err (ao : Option Addr) (cap : Nat) (l : List Sit) (g : Int) (w : World) (hT : Tabs w) (hL : Sts w ao l) (hcap : l.length ≤ cap) (hl : l.length ≤ 9223372036854775807) (hok : ∀ s ∈ l, SOk s) (hd : dchk l ≠ 0) :
    Calls Tryz.prog 4 #[.slice ao l.length cap, .int .i64 g] w fun e w' => e = .returned (.bool true) ∧ Below w.heap.size w w' := by
  have HSH : Hid (∀ W : World, Below w.heap.size w W → Calls Tryz.prog 8 #[.slice ao l.length cap] W fun e w' => e = .returned (.tuple #[.string ⟨#[]⟩, .int .i64 (dchk l)]) ∧ Below W.heap.size W w') := fun W hW => deckShow_err ao cap l W (hL.next hW) hcap hl hok hd
  have HST : Hid (Calls Tryz.prog 9 #[.string ⟨(conL ++ [10]).toArray⟩] w fun e w' => ∃ b1 off1 cap1, e = .returned (.tuple #[.slice (some ⟨b1, off1, none⟩) 1 cap1, .int .i64 0, .int .i64 0]) ∧ w'.cell? ⟨b1, off1, none⟩ = some (.int .i64 2) ∧ Below w.heap.size w w') := deckBack_start w hT
  have hne : (dchk l != 0) = true := by simp [hd]
  clear hL hok hd hT
  generalize dchk l = e0 at *
  generalize l.length = nn at *
  go_enter Tryz.func4, Tryz.ntmps4
  go_wp2_with fail
  rw [con_arr2]
  refine Calls.mono HST.out ?_
  rintro e w1 ⟨b1, off1, cap1, rfl, c1, hb1⟩
  have HB1 : Hid (Below w.heap.size w w1) := hb1
  clear hb1 HST
  go_wp2_with fail
  refine Calls.mono (HSH.out w1 HB1.out) ?_
  rintro e w2 ⟨rfl, hb2⟩
  go_wp2
  go_ret
  exact ⟨rfl, HB1.out.trans (hb2.mono HB1.out.size)⟩

end Go.Proofs.YtmmpaaaifdikdaaGreatDoor
