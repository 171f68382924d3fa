/-
  What is proved: what Word, Half, Text, bytes.Clone and New do. Conditions as stated.
-/
import Derived.Test.YtfegffdhlkhjbaaOb
import Derived.Lib.AppendStr
namespace Go.Proofs.Ytfegffdhlkhjbaa.Oct
open Go.RowKit
set_option maxRecDepth 100000

theorem Rd.of_own {w : World} {B n : Nat} {bs : List UInt8} {A : Option Addr} {c : Nat} (h : w.ownsRow B 5 1 (.slice A n c) n (u8s bs)) : Rd w A n bs := by
  have hl : bs.length = n := by have := h.1; rw [u8s_length] at this; omega
  refine ⟨hl, fun hn => ?_⟩
  rcases h.2 with ⟨h0, h1⟩ | ⟨g, cap, cur, hv, _, hh, _⟩
  · omega
  · have hA : A = some ⟨g, 0, none⟩ := by injection hv
    subst hA
    refine ⟨g, 0, rfl, ?_, fun j u hu => ?_⟩
    · exact (h.lt g rfl).2
    · have := h.cells (g := g) rfl j (.int .u8 (u.toNat : Int)) (by simp [u8s, hu])
      rwa [Addr.add_lit] at this

theorem Rd.below {w w' : World} {A : Option Addr} {n : Nat} {bs : List UInt8} (h : Rd w A n bs) (hb : Below w.heap.size w w') : Rd w' A n bs := by
  refine ⟨h.1, fun hn => ?_⟩
  obtain ⟨b, o, hA, hlt, hc⟩ := h.2 hn
  exact ⟨b, o, hA, Nat.lt_of_lt_of_le hlt hb.size, fun j u hu => (hb.cell (p := ⟨b, o + j, none⟩) hlt).trans (hc j u hu)⟩

/-- The shape of a slice value: nil, or somewhere with room. -/
def Sl (A : Option Addr) (n c : Nat) : Prop := (A = none → n = 0 ∧ c = 0) ∧ n ≤ c ∧ c ≤ 9223372036854775807

theorem own_shape {w : World} {B n : Nat} {v : Value} {xs : List Value} (h : w.ownsRow B 5 1 v n xs) : ∃ A c, v = .slice A n c ∧ Sl A n c := by
  rcases h.2 with ⟨rfl, rfl⟩ | ⟨g, cap, cur, rfl, _, _, hn, hm, _⟩
  · exact ⟨none, 0, rfl, ⟨fun _ => ⟨rfl, rfl⟩, Nat.le_refl _, by omega⟩⟩
  · exact ⟨_, cap, rfl, ⟨(fun h => (by cases h)), hn, by unfold maxLen at hm; omega⟩⟩

theorem word_any (A : Option Addr) (n c : Nat) (bs : List UInt8) (num : Nat) (w : World) (hr : Rd w A n bs) (hn : n ≤ 140737488355328) :
    Calls Try.prog 27 #[.slice A n c, .int .u64 num] w fun e w' => ∃ g c', e = .returned (.slice (some ⟨g, 0, none⟩) (n + 8) c') ∧ w'.ownsRow w.heap.size 5 1 (.slice (some ⟨g, 0, none⟩) (n + 8) c') (n + 8) (u8s (bs ++ be 8 num)) ∧ Below w.heap.size w w' := by
  go_enter Try.func27, Try.ntmps27
  go_wp2_with (go_at_call 48; refine (put64_any A n c bs num w hr hn).mono ?_; rintro e w' ⟨rfl, ho, hb⟩)
  go_ret
  exact ⟨_, _, rfl, ho, hb⟩

theorem half_any (A : Option Addr) (n c : Nat) (bs : List UInt8) (num : Nat) (w : World) (hr : Rd w A n bs) (hn : n ≤ 140737488355328) :
    Calls Try.prog 66 #[.slice A n c, .int .u16 num] w fun e w' => ∃ g c', e = .returned (.slice (some ⟨g, 0, none⟩) (n + 2) c') ∧ w'.ownsRow w.heap.size 5 1 (.slice (some ⟨g, 0, none⟩) (n + 2) c') (n + 2) (u8s (bs ++ be 2 num)) ∧ Below w.heap.size w w' := by
  go_enter Try.func66, Try.ntmps66
  go_wp2_with (go_at_call 75; refine (put16_any A n c bs num w hr hn).mono ?_; rintro e w' ⟨rfl, ho, hb⟩)
  go_ret
  exact ⟨_, _, rfl, ho, hb⟩

theorem clone_nil (w : World) : Calls Try.prog 41 #[.slice none 0 0] w fun e w' => e = .returned (.slice none 0 0) ∧ w = w' := by
  have hq := fun wx : World => Lib.run_eql_slice_nil (P := Try.prog) wx 29 5 none 0 0 0 0 Try.underlying29
  go_enter Try.func41, Try.ntmps41
  go_wp2
  go_ret
  exact ⟨rfl, rfl⟩

theorem clone_some (ad : Addr) (n c : Nat) (bs : List UInt8) (w : World) (hr : Rd w (some ad) n bs) (hn : n ≤ 140737488355328) :
    Calls Try.prog 41 #[.slice (some ad) n c] w fun e w' => ∃ A' c', e = .returned (.slice A' n c') ∧
      w'.ownsRow w.heap.size 5 1 (.slice A' n c') n (u8s bs) ∧ Sl A' n c' ∧ Below w.heap.size w w' := by
  obtain ⟨i0, hi, hz0, hz1, hz2⟩ := info_parts Try.info5
  have hq := fun wx : World => Lib.run_eql_slice_nil (P := Try.prog) wx 29 5 (some ad) n c 0 0 Try.underlying29
  have hl : (u8s bs).length = n * 1 := by rw [u8s_length, hr.1]; omega
  have hcells : ∀ W : World, Below w.heap.size w W → ∀ j u, (u8s bs)[j]? = some u → W.cell? (ad.add j) = some u := by
    intro W hb j u hu
    have hp : 0 < (u8s bs).length := by have := (List.getElem?_eq_some_iff.1 hu).1; omega
    obtain ⟨ad2, had, h⟩ := hr.src hb hp
    injection had with had
    subst had
    exact h j u hu
  have HL := Lib.hid hl
  have HC := Lib.hid hcells
  clear hl hcells
  go_enter Try.func41, Try.ntmps41
  go_wp2_with (at_builtin; go_must (refine wpList_append_own _ rfl (.tmp 5) (.tmp 6) 29 rfl w.heap.size 5 i0 (.int .u8 0) 1 1 Try.underlying29 hi hz0 hz1 hz2 rfl (by decide) _ 0 [] rfl (World.ownsRow_lit w #[] 0 (Nat.le_refl _) (Nat.zero_le _) rfl) ad n c (u8s bs) rfl HL.out (HC.out _ ((Below.refl _ _).alloc (Nat.le_refl _) _)) (u8s_one bs) (by unfold maxLen; omega) (by omega) (by simp) ?_); intro v' w2 hv2 hg2 _; rw [Nat.zero_add, List.nil_append] at hv2; obtain ⟨A', c', rfl, hsl⟩ := own_shape hv2)
  go_ret
  exact ⟨_, _, rfl, hv2, hsl, ((Below.refl _ _).alloc (Nat.le_refl _) _).grown hg2 (by simp) (fun k hk => by cases hk; exact Nat.le_refl _)⟩

theorem clone_any (A : Option Addr) (n c : Nat) (bs : List UInt8) (w : World) (hr : Rd w A n bs) (hs : Sl A n c) (hn : n ≤ 140737488355328) :
    Calls Try.prog 41 #[.slice A n c] w fun e w' => ∃ A' c', e = .returned (.slice A' n c') ∧
      w'.ownsRow w.heap.size 5 1 (.slice A' n c') n (u8s bs) ∧ Sl A' n c' ∧ Below w.heap.size w w' := by
  rcases A with _ | ad
  · obtain ⟨rfl, rfl⟩ := hs.1 rfl
    have hb : bs = [] := List.eq_nil_of_length_eq_zero hr.1
    subst hb
    exact (clone_nil w).mono fun e w' ⟨he, hw⟩ => hw ▸ ⟨none, 0, he, World.ownsRow_nil _ _ _ _, hs, Below.refl _ _⟩
  · exact clone_some ad n c bs w hr hn

/-- Block g is a cut with rem left to cut. -/
def CutAt (w : World) (lo g : Nat) (rem : List UInt8) (sp : Bool) : Prop :=
  ∃ (A : Option Addr) (n c at_ : Nat) (all : List UInt8), w.heap[g]? = some (.cells #[.slice A n c, .int .i64 (at_ : Int), .bool sp] 109 (0, 0)) ∧ Rd w A n all ∧ Sl A n c ∧ at_ ≤ n ∧
    n ≤ 140737488355328 ∧ rem = all.drop at_ ∧ ∀ ad, A = some ad → lo ≤ ad.block ∧ ad.block < g

theorem new_any (A : Option Addr) (n c : Nat) (bs : List UInt8) (w : World) (hr : Rd w A n bs) (hs : Sl A n c) (hn : n ≤ 140737488355328) :
    Calls Try.prog 45 #[.slice A n c] w fun e w' => ∃ g, e = .returned (.pointer (some ⟨g, 0, none⟩)) ∧ w.heap.size ≤ g ∧ CutAt w' w.heap.size g bs false ∧ Below w.heap.size w w' := by
  go_enter Try.func45, Try.ntmps45
  go_wp2_with (go_at_call 41; refine (clone_any A n c bs w hr hs hn).mono ?_; rintro e w1 ⟨A', c', rfl, ho, hsl, hb⟩)
  go_ret
  refine ⟨_, rfl, hb.size, ⟨A', n, c', 0, bs, heap_alloc_new w1 _, (Rd.of_own ho).below ((Below.refl _ _).alloc (Nat.le_refl _) _), hsl, Nat.zero_le _, hn, by simp, fun ad had => ?_⟩, hb.alloc hb.size _⟩
  subst had
  exact ho.lt ad.block rfl

end Go.Proofs.Ytfegffdhlkhjbaa.Oct
