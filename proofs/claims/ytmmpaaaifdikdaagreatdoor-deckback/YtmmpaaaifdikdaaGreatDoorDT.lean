/- The law DeckBack walked: all decks. -/
import Derived.Test.YtmmpaaaifdikdaaGreatDoorDS
namespace Go.Proofs.YtmmpaaaifdikdaaGreatDoor
open Go.RowKit Go.Shelf

set_option maxHeartbeats 3200000 in
set_option maxRecDepth 100000 in
theorem deckBack_nil (ao : Option Addr) (cap : Nat) (g : Int) (w : World) (hT : Tabs w) :
    Calls Tryz.prog 4 #[.slice ao 0 cap, .int .i64 g] w fun e w' => e = .returned (.bool true) ∧ Below w.heap.size w w' := by
  have hg : Good [] := ⟨by decide, fun s hs => by simp at hs, List.Pairwise.nil⟩
  have HST : Hid (Calls Tryz.prog 9 #[.string ⟨(conL ++ [10]).toArray⟩] w fun e w' => ∃ b1 off1 cap1, e = .returned (.tuple #[.slice (some ⟨b1, off1, none⟩) 1 cap1, .int .i64 0, .int .i64 0]) ∧ w'.cell? ⟨b1, off1, none⟩ = some (.int .i64 2) ∧ Below w.heap.size w w') := deckBack_start w hT
  have HSH : Hid (∀ W : World, Below w.heap.size w W → Calls Tryz.prog 8 #[.slice ao 0 cap] W fun e w' => e = .returned (.tuple #[.string ⟨#[]⟩, .int .i64 0]) ∧ Below W.heap.size W w') := fun W hW => deckShow_ok ao cap [] W (hT.next hW) (Sts.nil _ _) (Nat.zero_le _) hg
  have HRD : Hid (∀ W : World, Below w.heap.size w W → Calls Tryz.prog 9 #[.string ⟨#[]⟩] W fun e w' => ∃ aox capx, e = .returned (.tuple #[.slice aox 0 capx, .int .i64 0, .int .i64 0]) ∧ Below W.heap.size W w') := fun W hW => by
    refine Calls.mono (deckRead_any [] (dchk_zero.2 hg) [] [] rfl (Lines.nil 1) (by decide) W (hT.next hW)) ?_
    rintro e w' ⟨v, rfl, ⟨base, _, ho⟩, hb⟩
    obtain ⟨aox, capx, rfl, _, _⟩ := ho.shape
    exact ⟨aox, capx, rfl, hb⟩
  have HBX : Hid (∀ W : World, Below w.heap.size w W → Calls Tryz.prog 14 #[.slice ao 0 cap] W fun e w' => ∃ aob capb, e = .returned (.tuple #[.slice aob 0 capb, .int .i64 0]) ∧ Below W.heap.size W w') := fun W hW => by
    refine Calls.mono (boxes_ok ao cap [] W (Sts.nil _ _) (Nat.zero_le _) (fun s hs => by simp at hs) (dchk_zero.2 hg)) ?_
    rintro e w' ⟨v, rfl, ho, hb⟩
    obtain ⟨aob, capb, rfl, _, _⟩ := ho.shape
    exact ⟨aob, capb, rfl, hb⟩
  have HAP : Hid (∀ (aob : Option Addr) (capb : Nat) (W : World), Calls Tryz.prog 15 #[.slice aob 0 capb] W fun e w' => e = .returned (.tuple #[.int .i64 (-1), .int .i64 (-1), .int .i64 0]) ∧ Below W.heap.size W w') := fun aob capb W => S.apart_is aob capb [] W (S.Bxs.nil _ _) (Nat.zero_le _) hg
  clear hT hg
  go_enter Tryz.func4, Tryz.ntmps4
  go_wp2_with fail
  rw [con_arr2]
  refine Calls.mono HST.out ?_
  rintro e w1 ⟨b1, off1, cap1, rfl, c1, hb1⟩
  have HB1 : Hid (Below w.heap.size w w1) := hb1
  clear hb1 HST
  go_wp2_with fail
  refine Calls.mono (HSH.out w1 HB1.out) ?_
  rintro e w2 ⟨rfl, hb2⟩
  have HB2 : Hid (Below w.heap.size w w2) := HB1.out.trans (hb2.mono HB1.out.size)
  clear hb2 c1 HSH
  go_wp2_with fail
  refine Calls.mono (HRD.out w2 HB2.out) ?_
  rintro e w3 ⟨aox, capx, rfl, hb3⟩
  have HB3 : Hid (Below w.heap.size w w3) := HB2.out.trans (hb3.mono HB2.out.size)
  clear hb3 HRD HB2
  go_wp2_with fail
  refine Calls.mono (HBX.out w3 HB3.out) ?_
  rintro e w4 ⟨aob, capb, rfl, hb4⟩
  have HB4 : Hid (Below w.heap.size w w4) := HB3.out.trans (hb4.mono HB3.out.size)
  clear hb4 HBX HB3
  go_wp2_with fail
  refine Calls.mono (HAP.out aob capb w4) ?_
  rintro e w5 ⟨rfl, hb5⟩
  have HB5 : Hid (Below w.heap.size w w5) := HB4.out.trans (hb5.mono HB4.out.size)
  clear hb5 HAP HB4
  go_wp2_with fail
  go_loopw [16] (fun i wr => i = .int .i64 0 ∧ wr = w5) (fun _ _ => 0)
  case atStart => exact ⟨rfl, rfl⟩
  case round =>
    obtain ⟨rfl, rfl⟩ := hrel
    go_wp2
    go_ret
    exact ⟨rfl, HB5.out⟩
theorem deckBack_any (ao : Option Addr) (cap : Nat) (l : List Sit) (g : Int) (w : World) (hT : Tabs w) (hL : Sts w ao l) (hcap : l.length ≤ cap) (hl : l.length ≤ 9223372036854775807) (hok : ∀ s ∈ l, SOk s) (hg0 : -9223372036854775808 ≤ g) (hg1 : g ≤ 9223372036854775807) :
    Calls Tryz.prog 4 #[.slice ao l.length cap, .int .i64 g] w fun e w' => e = .returned (.bool true) ∧ Below w.heap.size w w' := by
  by_cases hd : dchk l = 0
  · by_cases h0 : l = []
    · subst h0; exact deckBack_nil ao cap g w hT
    · obtain ⟨b, off, rfl, _⟩ := hL.at (k := 0) (List.length_pos_iff.2 h0)
      exact deckBack_ok b off cap l g w hT hL hcap (dchk_zero.1 hd) h0 hg0 hg1
  · exact deckBack_err ao cap l g w hT hL hcap hl hok hd

end Go.Proofs.YtmmpaaaifdikdaaGreatDoor
