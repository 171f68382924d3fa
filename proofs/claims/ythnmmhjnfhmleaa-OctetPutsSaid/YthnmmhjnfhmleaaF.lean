/-
  What is proved: what Text and Raw of a cut answer. Conditions as stated.
-/
import Derived.Test.YthnmmhjnfhmleaaE
namespace Go.Proofs.Ythnmmhjnfhmleaa
open Go.RowKit

theorem raw_cut {lo : Nat} (g : Nat) (rem : List UInt8) (sp : Bool) (k : Int) (w : World) (h : CutAt w lo g rem sp) :
    Calls Try.prog 25 #[.pointer (some ⟨g, 0, none⟩), .int .i64 k] w fun e w' => ∃ A' m c', e = .returned (.slice A' m c') ∧
      Hid (m = (tkOut rem sp k).length ∧ w'.ownsRow w.heap.size 5 1 (.slice A' m c') m (u8s (tkOut rem sp k)) ∧ Sl A' m c') ∧
      CutAt w' lo g (tkRem rem sp k) (!fits rem sp k) ∧ w.grownBy w' (some g) := by
  go_enter Try.func25, Try.ntmps25
  go_wp2_with (go_at_call 43; refine (raw_of_take g rem sp k w h).mono ?_; rintro e w1 ⟨A', m, c', rfl, hh, hc, hg⟩)
  go_ret
  exact ⟨A', m, c', rfl, hh, hc, hg⟩

/-- How many bytes a text has with its length, or -1. -/
def tsz (rem : List UInt8) (most : Int) : Int := if fits rem false 2 = true ∧ (num (tkOut rem false 2) : Int) ≤ most then 2 + (num (tkOut rem false 2) : Int) else -1

theorem num2_lt (rem : List UInt8) (sp : Bool) : num (tkOut rem sp 2) < 65536 := num_out_lt rem sp 2

theorem local_cut {A : Option Addr} {n c : Nat} {rem : List UInt8} {w : World} (hr : Rd w A n rem) (hs : Sl A n c) (hn : n ≤ 140737488355328) (hA : ∀ ad, A = some ad → ad.block < w.heap.size) :
    CutAt (w.alloc (.cells #[.slice A n c, .int .i64 0, .bool false] 60)) 0 w.heap.size rem false :=
  ⟨A, n, c, 0, rem, heap_alloc_new w _, hr.below ((Below.refl _ _).alloc (Nat.le_refl _) _), hs, Nat.zero_le _, hn, by simp, fun ad had => ⟨Nat.zero_le _, hA ad had⟩⟩

theorem textSize_any (A : Option Addr) (n c : Nat) (rem : List UInt8) (most : Int) (w : World) (hr : Rd w A n rem) (hs : Sl A n c) (hn : n ≤ 140737488355328) (hA : ∀ ad, A = some ad → ad.block < w.heap.size) :
    Calls Try.prog 41 #[.slice A n c, .int .i64 most] w fun e w' => e = .returned (.int .i64 (tsz rem most)) ∧ Below w.heap.size w w' := by
  have hcut := local_cut hr hs hn hA
  have HB : Hid (Below w.heap.size w (w.alloc (.cells #[.slice A n c, .int .i64 0, .bool false] 60))) := (Below.refl _ _).alloc (Nat.le_refl _) _
  have hhalf := half_cut w.heap.size rem false _ hcut
  have HT : Hid (tsz rem most = if fits rem false 2 = true ∧ (num (tkOut rem false 2) : Int) ≤ most then 2 + (num (tkOut rem false 2) : Int) else -1) := rfl
  have hq2 := num2_lt rem false
  obtain ⟨q, hq⟩ : ∃ q, q = num (tkOut rem false 2) := ⟨_, rfl⟩
  rw [← hq] at hhalf HT hq2
  obtain ⟨t, ht⟩ : ∃ t, t = tsz rem most := ⟨_, rfl⟩
  rw [← ht] at HT ⊢
  obtain ⟨f, hf⟩ : ∃ f, f = fits rem false 2 := ⟨_, rfl⟩
  rw [← hf] at hhalf HT
  have HH := Lib.hid hhalf
  clear ht hf hq hcut hhalf hr hs hA
  cases f with
  | false =>
    obtain rfl : t = -1 := by rw [HT.out, if_neg (by simp)]
    clear HT
    go_enter Try.func41, Try.ntmps41
    go_wp2_with (first
      | (go_at_call 19; refine HH.out.mono ?_; rintro e w1 ⟨rfl, hc, hg⟩)
      | (go_at_call 28; refine (ok_any _ _ _ _ hc).mono ?_; rintro e w2 ⟨rfl, rfl⟩))
    go_ret
    exact ⟨rfl, HB.out.grown hg (by simp) (fun k hk => by cases hk; exact Nat.le_refl _)⟩
  | true =>
    by_cases hm : (q : Int) ≤ most
    · obtain rfl : t = 2 + (q : Int) := by rw [HT.out, if_pos ⟨rfl, hm⟩]
      clear HT
      go_enter Try.func41, Try.ntmps41
      go_wp2_with (first
        | (go_at_call 19; refine HH.out.mono ?_; rintro e w1 ⟨rfl, hc, hg⟩)
        | (go_at_call 28; refine (ok_any _ _ _ _ hc).mono ?_; rintro e w2 ⟨rfl, rfl⟩))
      go_ret
      exact ⟨rfl, HB.out.grown hg (by simp) (fun k hk => by cases hk; exact Nat.le_refl _)⟩
    · obtain rfl : t = -1 := by rw [HT.out, if_neg (fun h => hm h.2)]
      clear HT
      go_enter Try.func41, Try.ntmps41
      go_wp2_with (first
        | (go_at_call 19; refine HH.out.mono ?_; rintro e w1 ⟨rfl, hc, hg⟩)
        | (go_at_call 28; refine (ok_any _ _ _ _ hc).mono ?_; rintro e w2 ⟨rfl, rfl⟩))
      go_ret
      exact ⟨rfl, HB.out.grown hg (by simp) (fun k hk => by cases hk; exact Nat.le_refl _)⟩

/-- Bytes as a string. -/
def str (bs : List UInt8) : ByteArray := ⟨bs.toArray⟩

theorem run_string {w : World} {A : Option Addr} {n c : Nat} {bs : List UInt8} (h : Rd w A n bs) : (convert 22 9 (.slice A n c)).run Try.prog w = .ok (.string (str bs)) w := by
  rcases A with _ | ad
  · have h0 : n = 0 := by
      rcases Nat.eq_zero_or_pos n with h0 | h0
      · exact h0
      · obtain ⟨_, _, hA, _⟩ := h.2 h0
        cases hA
    subst h0
    have hb : bs = [] := List.eq_nil_of_length_eq_zero h.1
    subst hb
    exact run_convert_bytes_nil w 22 5 Try.underlying22 Try.underlying5 0 c 9 Try.underlying9
  · rcases Nat.eq_zero_or_pos n with h0 | h0
    · subst h0
      have hb : bs = [] := List.eq_nil_of_length_eq_zero h.1
      subst hb
      rw [run_convert_bytes_string w 22 9 5 _ 0 c Try.underlying22 Try.underlying5 Try.underlying9, run_bytesToString w ad 0 c [] (by simpa using run_loadCells_list (P := Try.prog) w ad [] (by simp))]
      rfl
    · obtain ⟨b, o, hA, _, hc⟩ := h.2 h0
      injection hA with hA
      subst hA
      have := run_convert_bytes_arg (P := Try.prog) w 22 5 Try.underlying22 Try.underlying5 b o n c (bs.map fun x => (x.toNat : Int)) (by rw [List.length_map]; exact h.1) (fun i hi => by
        have hi' : i < bs.length := by rw [h.1]; exact hi
        rw [hc i bs[i] (List.getElem?_eq_getElem hi')]
        simp [List.getD, hi']) 9 Try.underlying9
      rw [this]
      congr 2
      apply ByteArray.ext
      apply Array.toList_inj.1
      rw [strOfNums_data, List.map_map]
      simp only [str]
      conv => rhs; rw [← List.map_id bs]
      apply List.map_congr_left
      intro x _
      simp

/-- string(b). -/
theorem wpList_string {w : World} {ops : Array Oper} {rest : List Oper} {o : Oper} {a : Act} {Q : Exit → Act → World → Prop} (hgd : o.guard = none) (x : Operand)
    (ho : o.op = .convert 22 9 x) (A : Option Addr) (n c : Nat) (bs : List UInt8) (hx : a.eval x = .slice A n c) (hr : Rd w A n bs)
    (h : wpList Try.prog ops Q rest (a.put o.dst (.string (str bs))) w) : wpList Try.prog ops Q (o :: rest) a w := by
  refine wpList_plain hgd fun K hK => ?_
  have hrun := run_string (c := c) hr
  unfold Oper.wp
  simp [execOp, ho, hx, hrun, Result.andThen]
  exact hK _ _ h

theorem cutText_any {lo : Nat} (g : Nat) (rem : List UInt8) (sp : Bool) (k : Int) (w : World) (h : CutAt w lo g rem sp) :
    Calls Try.prog 40 #[.func (.func 36) #[.pointer (some ⟨g, 0, none⟩)] #[], .int .i64 k] w fun e w' => e = .returned (.string (str ((tkOut rem sp k).drop 2))) ∧
      CutAt w' lo g (tkRem rem sp k) (!fits rem sp k) ∧ w.grownBy w' (some g) := by
  have HT := Lib.hid (take_open g rem sp k w h)
  obtain ⟨out, ho⟩ : ∃ out, out = tkOut rem sp k := ⟨_, rfl⟩
  rw [← ho] at HT ⊢
  have hlen : out.length ≤ 140737488355328 := by rw [ho]; exact Nat.le_trans (tkOut_len _ _ _) h.len
  clear ho h
  by_cases hl : out.length < 2
  · have hd : out.drop 2 = [] := List.drop_of_length_le (by omega)
    rw [hd]
    clear hd
    go_enter Try.func40, Try.ntmps40
    go_wp2_with (go_at_call 36; refine HT.out.mono ?_; rintro e w1 ⟨A', m, c', rfl, hh, hc, hg⟩; have hm : m < 2 := (by rw [hh.out.1]; exact hl))
    go_ret
    exact ⟨rfl, hc, hg⟩
  · go_enter Try.func40, Try.ntmps40
    go_wp2_with (first
      | (go_at_call 36; refine HT.out.mono ?_; rintro e w1 ⟨A', m, c', rfl, hh, hc, hg⟩; have hm : 2 ≤ m := (by rw [hh.out.1]; omega); have hm2 : m ≤ 140737488355328 := (by rw [hh.out.1]; exact hlen); have hmc : m ≤ c' := hh.out.2.2.1.2.1; have hmc2 : c' ≤ 9223372036854775807 := hh.out.2.2.1.2.2)
      | (refine wpList_string rfl (.tmp 13) rfl _ (m - 2) (c' - 2) (out.drop 2) rfl (hh.out.2.1.cut hm hmc) ?_))
    all_goals (go_ret; exact ⟨rfl, hc, hg⟩)

/-- How many bytes Text takes. -/
theorem text_cut {lo : Nat} (g : Nat) (rem : List UInt8) (sp : Bool) (most : Int) (w : World) (h : CutAt w lo g rem sp) :
    Calls Try.prog 23 #[.pointer (some ⟨g, 0, none⟩), .int .i64 most] w fun e w' => e = .returned (.string (str ((tkOut rem sp (tsz rem most)).drop 2))) ∧
      CutAt w' lo g (tkRem rem sp (tsz rem most)) (!fits rem sp (tsz rem most)) ∧ w.grownBy w' (some g) := by
  have hlt := h.lt
  have hlen := h.len
  have HL := Lib.hid hlen
  have HLT := Lib.hid hlt
  clear hlt hlen
  go_enter Try.func23, Try.ntmps23
  go_wp2_with (first
    | (go_at_call 42; refine (rest_cut g rem sp w h).mono ?_; rintro e w1 ⟨A', c', rfl, hh, q, rfl⟩; have hc0 := h.drewN q)
    | (go_at_call 41; go_must (refine (textSize_any A' rem.length c' rem most _ (hh.out.1.drewN q) hh.out.2.1 HL.out (fun ad had => Nat.lt_trans (hh.out.2.2 ad had).2 HLT.out)).mono ?_); rintro e w2 ⟨rfl, hb⟩; have hc1 := hc0.below hb)
    | (go_at_call 40; refine (cutText_any g rem sp (tsz rem most) _ hc1).mono ?_; rintro e w3 ⟨rfl, hc, hg⟩))
  go_ret
  exact ⟨rfl, hc, grownBy_trans (grownBy_trans (grownBy_drewN w q _) (grownBy_below hb _)) hg⟩

end Go.Proofs.Ythnmmhjnfhmleaa
