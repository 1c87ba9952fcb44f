/- lexer.Lex, walked. -/
import Derived.Test.YtpfpfnkagmmanaaGreatDoorLxB
import Derived.Shelf.Abstract
namespace Go.Proofs.YtpfpfnkagmmanaaGreatDoor
open Go.RowKit Go.Shelf

abbrev Res := List Tk × Int × Int
/-- The reader on its way: what is still to be told comes to res. -/
def St (w0 w : World) (res : Res) (g : Nat) (v : Value) : Prop :=
  ∃ (l : List UInt8) (n : Int) (ts : List Tk), (l.length + ts.length ≤ 20000 ∧ 1 ≤ n ∧ n + l.length ≤ 20001) ∧ lexW l n ts = res ∧ Rd w0 w l n ts 0 ∧
    ((v = fnV 24 ∧ 2 * l.length + 1 ≤ g) ∨ (2 * l.length ≤ g ∧ ∃ b t, l = b :: t ∧ ((v = fnV 39 ∧ b = 10) ∨ (v = fnV 40 ∧ b = 35) ∨ (v = fnV 41 ∧ b = 34) ∨
      (v = fnV 43 ∧ letR b.toNat = true) ∨ (v = fnV 45 ∧ digR b.toNat = true) ∨ (v = fnV 47 ∧ signB b = true))))
/-- The reader at its end. -/
def Fin (w0 w : World) (res : Res) (v : Value) : Prop :=
  v = .nilFunc ∧ ∃ (l : List UInt8) (n : Int) (ts : List Tk) (e : Int), Rd w0 w l n ts e ∧ ((e = 0 ∧ res = (ts, 0, 0)) ∨ (e ≠ 0 ∧ res = ([], n, e)))
def StepTo (w0 : World) (res : Res) (k F : Nat) (w : World) : Prop :=
  Calls Tryz.prog F #[ptr w0.heap.size] w fun x w' => ∃ v', x = .returned v' ∧ (St w0 w' res k v' ∨ Fin w0 w' res v')
theorem en_between : ∀ args w, (callFunc 24 args).run Tryz.prog w = .ok (.enter 24 args) w := enters_of Tryz.func24 (by kernel_rfl) rfl
theorem en_lineEnd : ∀ args w, (callFunc 39 args).run Tryz.prog w = .ok (.enter 39 args) w := enters_of Tryz.func39 (by kernel_rfl) rfl
theorem en_remark : ∀ args w, (callFunc 40 args).run Tryz.prog w = .ok (.enter 40 args) w := enters_of Tryz.func40 (by kernel_rfl) rfl
theorem en_label : ∀ args w, (callFunc 41 args).run Tryz.prog w = .ok (.enter 41 args) w := enters_of Tryz.func41 (by kernel_rfl) rfl
theorem en_wordS : ∀ args w, (callFunc 43 args).run Tryz.prog w = .ok (.enter 43 args) w := enters_of Tryz.func43 (by kernel_rfl) rfl
theorem en_amount : ∀ args w, (callFunc 45 args).run Tryz.prog w = .ok (.enter 45 args) w := enters_of Tryz.func45 (by kernel_rfl) rfl
theorem en_sign : ∀ args w, (callFunc 47 args).run Tryz.prog w = .ok (.enter 47 args) w := enters_of Tryz.func47 (by kernel_rfl) rfl

section
variable {w0 w : World} {res : Res} {k : Nat} {n : Int} {ts : List Tk} {t : List UInt8} {b : UInt8}
theorem st_between {l : List UInt8} (hb : l.length + ts.length ≤ 20000 ∧ 1 ≤ n ∧ n + l.length ≤ 20001) (he : lexW l n ts = res) (hR : Rd w0 w l n ts 0) (hk : 2 * l.length + 1 ≤ k) : St w0 w res k (fnV 24) := ⟨l, n, ts, hb, he, hR, .inl ⟨rfl, hk⟩⟩
theorem step_lineEnd (hb : (10 :: t).length + ts.length ≤ 20000 ∧ 1 ≤ n ∧ n + (10 :: t).length ≤ 20001) (he : lexW (10 :: t) n ts = res) (hR : Rd w0 w (10 :: t) n ts 0) (hk : 2 * (10 :: t).length ≤ k + 1) : StepTo w0 res k 39 w := by
  simp only [List.length_cons] at hb hk
  refine (lineEnd_any w0 w t n ts 0 hR (by omega) (by omega) (by omega)).mono fun x w' ⟨hx, h⟩ => ⟨_, hx, .inl (st_between (by omega) ?_ h (by omega))⟩
  rw [← he, lexW_ok step_feed, List.append_nil]
theorem step_remarkS (hb : (35 :: t).length + ts.length ≤ 20000 ∧ 1 ≤ n ∧ n + (35 :: t).length ≤ 20001) (he : lexW (35 :: t) n ts = res) (hR : Rd w0 w (35 :: t) n ts 0) (hk : 2 * (35 :: t).length ≤ k + 1) : StepTo w0 res k 40 w := by
  have hd := lineD_lt (t := t) (b := 35) rfl
  have hl : (35 :: t).length ≤ 20000 := by omega
  simp only [List.length_cons] at hb hk
  refine (remark_any w0 w (35 :: t) n ts 0 hR hl).mono fun x w' ⟨hx, h⟩ => ⟨_, hx, .inl (st_between (by omega) ?_ h (by omega))⟩
  rw [← he, lexW_ok step_remark, List.append_nil]
theorem step_wordS (hc : letR b.toNat = true) (hb : (b :: t).length + ts.length ≤ 20000 ∧ 1 ≤ n ∧ n + (b :: t).length ≤ 20001) (he : lexW (b :: t) n ts = res) (hR : Rd w0 w (b :: t) n ts 0) (hk : 2 * (b :: t).length ≤ k + 1) : StepTo w0 res k 43 w := by
  have hd := wordD_lt (t := t) hc
  have hl : (b :: t).length ≤ 20000 := by omega
  simp only [List.length_cons] at hb hk
  refine (word_state w0 w (b :: t) n ts 0 hR hl (by omega)).mono fun x w' ⟨hx, h⟩ => ⟨_, hx, .inl (st_between ?_ ?_ h (by omega))⟩
  · simp only [List.length_append, List.length_cons, List.length_nil]; omega
  · rw [← he, lexW_ok (step_word hc)]
theorem step_signS (hc : signB b = true) (hb : (b :: t).length + ts.length ≤ 20000 ∧ 1 ≤ n ∧ n + (b :: t).length ≤ 20001) (he : lexW (b :: t) n ts = res) (hR : Rd w0 w (b :: t) n ts 0) (hk : 2 * (b :: t).length ≤ k + 1) : StepTo w0 res k 47 w := by
  simp only [List.length_cons] at hb hk
  refine (sign_state w0 w b t n ts 0 hR (by omega) (by omega)).mono fun x w' ⟨hx, h⟩ => ⟨_, hx, .inl (st_between ?_ ?_ h (by omega))⟩
  · simp only [List.length_append, List.length_cons, List.length_nil]; omega
  · rw [← he, lexW_ok (step_sign hc)]
theorem step_amountS (hT : Tab w0) (hc : digR b.toNat = true) (hb : (b :: t).length + ts.length ≤ 20000 ∧ 1 ≤ n ∧ n + (b :: t).length ≤ 20001) (he : lexW (b :: t) n ts = res) (hR : Rd w0 w (b :: t) n ts 0) (hk : 2 * (b :: t).length ≤ k + 1) : StepTo w0 res k 45 w := by
  have hd := dropA_lt (t := t) hc
  have hl : (b :: t).length ≤ 20000 := by omega
  simp only [List.length_cons] at hb hk
  by_cases hr : rdE (ahead (b :: t) (dropA (b :: t))) = 0
  · refine (amount_ok w0 w hT (b :: t) n ts 0 hR hl (by omega) hr).mono fun x w' ⟨hx, h⟩ => ⟨_, hx, .inl (st_between ?_ ?_ h (by omega))⟩
    · simp only [List.length_append, List.length_cons, List.length_nil]; omega
    · rw [← he, lexW_ok (step_amount hc hr)]
  · refine (amount_no w0 w hT (b :: t) n ts 0 _ hR hl rfl hr).mono fun x w' ⟨hx, h⟩ => ⟨_, hx, .inr ⟨rfl, _, _, _, _, h, .inr ⟨hr, ?_⟩⟩⟩
    rw [← he, lexW_err (by simp) (step_amountE hc hr)]
theorem step_labelS (hb : (34 :: t).length + ts.length ≤ 20000 ∧ 1 ≤ n ∧ n + (34 :: t).length ≤ 20001) (he : lexW (34 :: t) n ts = res) (hR : Rd w0 w (34 :: t) n ts 0) (hk : 2 * (34 :: t).length ≤ k + 1) : StepTo w0 res k 41 w := by
  have hq : (quoD t).length ≤ t.length := dropWhile_len t
  have hp := trimP_len (quoD t)
  simp only [List.length_cons] at hb hk
  cases h1 : Lib.hasPrefix (quoD t) [34] with
  | false =>
    refine (label_open w0 w t n ts 0 hR (by omega) h1).mono fun x w' ⟨hx, l, h⟩ => ⟨_, hx, .inr ⟨rfl, l, _, _, _, h, .inr ⟨by decide, ?_⟩⟩⟩
    rw [← he, lexW_err (by simp) (step_stringE (by rw [h1]; rfl))]
  | true =>
    cases h2 : labB (ahead t (quoD t)) with
    | false =>
      refine (label_bad w0 w t n ts 0 hR (by omega) h1 h2).mono fun x w' ⟨hx, l, h⟩ => ⟨_, hx, .inr ⟨rfl, l, _, _, _, h, .inr ⟨by decide, ?_⟩⟩⟩
      rw [← he, lexW_err (by simp) (step_stringE (by rw [h1, h2]; rfl))]
    | true =>
      refine (label_good w0 w t n ts 0 hR (by omega) (by omega) h1 h2).mono fun x w' ⟨hx, h⟩ => ⟨_, hx, .inl (st_between ?_ ?_ h (by omega))⟩
      · simp only [List.length_append, List.length_cons, List.length_nil]; omega
      · rw [← he, lexW_ok (step_string (by rw [h1, h2]; rfl))]
theorem step_betweenS {l : List UInt8} (hT : Tab w0) (hb : l.length + ts.length ≤ 20000 ∧ 1 ≤ n ∧ n + l.length ≤ 20001) (he : lexW l n ts = res) (hR : Rd w0 w l n ts 0) (hk : 2 * l.length + 1 ≤ k + 1) : StepTo w0 res k 24 w := by
  have hle : (blankD l).length ≤ l.length := dropWhile_len l
  rw [lexW_blanks] at he
  match hd : blankD l with
  | [] =>
    rw [hd] at he
    exact (between_end w0 w l n ts 0 hR (by omega) hd).mono fun x w' ⟨hx, h⟩ => ⟨_, hx, .inr ⟨rfl, _, _, _, _, h, .inl ⟨rfl, he.symm⟩⟩⟩
  | b :: t =>
    rw [hd] at he hle
    have hb' : (b :: t).length + ts.length ≤ 20000 ∧ 1 ≤ n ∧ n + (b :: t).length ≤ 20001 := by omega
    have hk' : 2 * (b :: t).length ≤ k := by omega
    have hl : l.length ≤ 20000 := by omega
    by_cases hlow : b.toNat < 128
    · have hdec : (Lib.decodeL (b :: t)).1 = b.toNat := by rw [Lib.decodeL_ascii b t hlow]
      rcases head_ways b with rfl | rfl | rfl | h | h | h | ⟨h1, h2, h3, h4, h5, h6⟩
      · exact (between_feed w0 w hT l 10 t _ n ts 0 hR hl hd hdec rfl).mono fun x w' ⟨hx, h⟩ => ⟨_, hx, .inl ⟨_, _, _, hb', he, h, .inr ⟨hk', _, _, rfl, .inl ⟨rfl, rfl⟩⟩⟩⟩
      · exact (between_remark w0 w hT l 35 t _ n ts 0 hR hl hd hdec rfl).mono fun x w' ⟨hx, h⟩ => ⟨_, hx, .inl ⟨_, _, _, hb', he, h, .inr ⟨hk', _, _, rfl, .inr (.inl ⟨rfl, rfl⟩)⟩⟩⟩
      · exact (between_quote w0 w hT l 34 t _ n ts 0 hR hl hd hdec rfl).mono fun x w' ⟨hx, h⟩ => ⟨_, hx, .inl ⟨_, _, _, hb', he, h, .inr ⟨hk', _, _, rfl, .inr (.inr (.inl ⟨rfl, rfl⟩))⟩⟩⟩
      · have hn := let_ne h
        have h34 : b ≠ 34 := fun e => by subst e; exact absurd h (by decide)
        exact (between_word w0 w hT l b t _ n ts 0 hR hl hd hdec (nat_ne hn.1) (nat_ne hn.2.2) (nat_ne h34) h).mono fun x w' ⟨hx, h'⟩ => ⟨_, hx, .inl ⟨_, _, _, hb', he, h', .inr ⟨hk', _, _, rfl, .inr (.inr (.inr (.inl ⟨rfl, h⟩)))⟩⟩⟩
      · have hn := dig_ne h
        have h34 : b ≠ 34 := fun e => by subst e; exact absurd h (by decide)
        exact (between_amount w0 w hT l b t _ n ts 0 hR hl hd hdec (nat_ne hn.1) (nat_ne hn.2.2.1) (nat_ne h34) hn.2.2.2 h).mono fun x w' ⟨hx, h'⟩ => ⟨_, hx, .inl ⟨_, _, _, hb', he, h', .inr ⟨hk', _, _, rfl, .inr (.inr (.inr (.inr (.inl ⟨rfl, h⟩))))⟩⟩⟩
      · have hn := sign_ne h
        refine (between_sign w0 w hT l b t _ n ts 0 hR hl hd hdec (nat_ne hn.1) (nat_ne hn.2.2.1) (nat_ne hn.2.2.2.2.2.1) hn.2.2.2.1 hn.2.2.2.2.1 (fun W => ?_)).mono fun x w' ⟨hx, h'⟩ => ⟨_, hx, .inl ⟨_, _, _, hb', he, h', .inr ⟨hk', _, _, rfl, .inr (.inr (.inr (.inr (.inr ⟨rfl, h⟩))))⟩⟩⟩
        have := containsRune_low b W hlow
        rw [h] at this
        exact this
      · refine (between_none w0 w hT l b t _ n ts 0 hR hl hd hdec (nat_ne h1) (nat_ne h2) (nat_ne h3) h4 h5 (fun W => ?_)).mono fun x w' ⟨hx, h'⟩ => ⟨_, hx, .inr ⟨rfl, _, _, _, _, h', .inr ⟨by decide, ?_⟩⟩⟩
        · have := containsRune_low b W hlow
          rw [h6] at this
          exact this
        · rw [← he, lexW_err (by simp) (step_none h1 (blankD_head hd) h2 h4 h5 h3 h6)]
    · have hhi : 128 ≤ b.toNat := by omega
      have hr := high_rune b t hhi
      obtain ⟨h1, h2, h3, h4, h5, h6, h7⟩ := high_ne hhi
      refine (between_none w0 w hT l b t _ n ts 0 hR hl hd rfl (by omega) (by omega) (by omega) (by unfold letR; simp; omega) (by unfold digR; simp; omega) (fun W => containsRune_high _ W hr)).mono fun x w' ⟨hx, h'⟩ => ⟨_, hx, .inr ⟨rfl, _, _, _, _, h', .inr ⟨by decide, ?_⟩⟩⟩
      rw [← he, lexW_err (by simp) (step_none h1 h2 h3 h4 h5 h6 h7)]
theorem st_step (hT : Tab w0) {v : Value} {g : Nat} (h : St w0 w res g v) : ∃ k F, g = k + 1 ∧ v = fnV F ∧ (∀ args w, (callFunc F args).run Tryz.prog w = .ok (.enter F args) w) ∧ StepTo w0 res k F w := by
  obtain ⟨l, n, ts, hb, he, hR, ⟨rfl, hg⟩ | ⟨hg, b, t, rfl, h⟩⟩ := h
  · exact ⟨g - 1, _, by omega, rfl, en_between, step_betweenS hT hb he hR (by omega)⟩
  · have h2 : 1 ≤ (b :: t).length := by simp
    rcases h with ⟨rfl, rfl⟩ | ⟨rfl, rfl⟩ | ⟨rfl, rfl⟩ | ⟨rfl, h⟩ | ⟨rfl, h⟩ | ⟨rfl, h⟩
    · exact ⟨g - 1, _, by omega, rfl, en_lineEnd, step_lineEnd hb he hR (by omega)⟩
    · exact ⟨g - 1, _, by omega, rfl, en_remark, step_remarkS hb he hR (by omega)⟩
    · exact ⟨g - 1, _, by omega, rfl, en_label, step_labelS hb he hR (by omega)⟩
    · exact ⟨g - 1, _, by omega, rfl, en_wordS, step_wordS h hb he hR (by omega)⟩
    · exact ⟨g - 1, _, by omega, rfl, en_amount, step_amountS hT h hb he hR (by omega)⟩
    · exact ⟨g - 1, _, by omega, rfl, en_sign, step_signS h hb he hR (by omega)⟩
end
theorem fn_ne (F : Nat) (W : World) : (binOp .neq 59 (fnV F) .nilFunc).run Tryz.prog W = .ok (.bool true) W := by kernel_rfl
theorem nil_ne (W : World) : (binOp .neq 59 .nilFunc .nilFunc).run Tryz.prog W = .ok (.bool false) W := by kernel_rfl
set_option maxHeartbeats 1600000 in
theorem lex_big (u : List UInt8) (w : World) (hu : 20000 < u.length) :
    Calls Tryz.prog 10 #[.string ⟨u.toArray⟩] w fun e w' => e = .returned (.tuple #[.slice none 0 0, .int .i64 0, .int .i64 8]) ∧ w' = w := by
  have hq : decide ((20000 : Int) < (u.length : Int)) = true := by simp; omega
  go_enter Tryz.func10, Tryz.ntmps10
  go_wp2
  go_ret3
  exact ⟨rfl, rfl⟩
set_option maxHeartbeats 3200000 in
set_option maxRecDepth 100000 in
theorem lex_small (u : List UInt8) (w : World) (hT : Tab w) (hu : u.length ≤ 20000) (T : List Tk) (N E : Int) (hres : lexW u 1 [] = (T, N, E)) :
    Calls Tryz.prog 10 #[.string ⟨u.toArray⟩] w fun e w' => ∃ v, e = .returned (.tuple #[v, .int .i64 N, .int .i64 E]) ∧ OwnT w' w.heap.size v T ∧ Below w.heap.size w w' := by
  have hq : decide ((20000 : Int) < (u.length : Int)) = false := by simp; omega
  have H0 : Hid (∀ W, Rd w W u 1 [] 0 → St w W (T, N, E) (2 * u.length + 1) (fnV 24)) := fun W h => st_between ⟨by simp; omega, by omega, by omega⟩ hres h (by omega)
  have HT : Hid (Tab w) := hT
  clear hT hres
  go_enter Tryz.func10, Tryz.ntmps10
  go_wp2
  go_loopg [6] (2 * u.length + 1) (fun gf s6 wr => St w wr (T, N, E) gf s6 ∨ Fin w wr (T, N, E) s6)
  case atStart => exact .inl (H0.out _ (Rd.new w u 1))
  case round =>
    rcases hrel with h | h
    · obtain ⟨k, F, rfl, rfl, eF, hc⟩ := st_step HT.out h
      have HC : Hid (StepTo w (T, N, E) k F wr) := hc
      clear h hc
      have hfn := fn_ne F
      go_wp2_with (go_at_fn F; refine Calls.mono HC.out ?_; rintro x w' ⟨v', rfl, hv'⟩)
      go_roundg k
      case rel => exact hv'
      case measure => omega
    · obtain ⟨rfl, l, n, ts, e, hR, hfin⟩ := h
      have HR : Hid (Rd w wr l n ts e) := hR
      have HF : Hid ((e = 0 ∧ (T, N, E) = (ts, (0 : Int), (0 : Int))) ∨ (e ≠ 0 ∧ (T, N, E) = (([] : List Tk), n, e))) := hfin
      have c1 := hR.c1
      have c3 := hR.c3
      obtain ⟨v, c2, hv⟩ := hR.c2
      have HV : Hid (OwnT wr (w.heap.size + 1) v ts) := hv
      clear hR hfin hv
      have hnn := nil_ne
      rcases HF.out with ⟨rfl, he⟩ | ⟨hne, he⟩
      · obtain ⟨ao, cap, rfl⟩ := HV.out.shape
        have HE := (show Hid _ from he)
        clear he
        go_wp2
        go_ret3
        obtain ⟨rfl, rfl, rfl⟩ : T = ts ∧ N = 0 ∧ E = 0 := by have := HE.out; simp only [Prod.mk.injEq] at this; exact this
        exact ⟨_, rfl, owns_base HV.out (Nat.le_succ _), HR.out.below⟩
      · have hq2 : (e != 0) = true := by simp [hne]
        have HE := (show Hid _ from he)
        clear he hne
        go_wp2_with fail
        go_big_quiet (fail)
        go_wp2
        go_ret3
        obtain ⟨rfl, rfl, rfl⟩ : T = [] ∧ N = n ∧ E = e := by have := HE.out; simp only [Prod.mk.injEq] at this; exact this
        exact ⟨_, rfl, OwnT.nil _ _, below_drewN HR.out.below _⟩
theorem lex_any (u : List UInt8) (w : World) (hT : Tab w) (T : List Tk) (N E : Int) (hres : lexR u = (T, N, E)) :
    Calls Tryz.prog 10 #[.string ⟨u.toArray⟩] w fun e w' => ∃ v, e = .returned (.tuple #[v, .int .i64 N, .int .i64 E]) ∧ OwnT w' w.heap.size v T ∧ Below w.heap.size w w' := by
  unfold lexR at hres
  split at hres
  · rename_i h
    simp only [Prod.mk.injEq] at hres
    obtain ⟨rfl, rfl, rfl⟩ := hres
    exact (lex_big u w h).mono fun e w' ⟨he, hw⟩ => ⟨_, he, OwnT.nil _ _, hw ▸ Below.refl _ _⟩
  · exact lex_small u w hT (by omega) T N E hres
end Go.Proofs.YtpfpfnkagmmanaaGreatDoor
