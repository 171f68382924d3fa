/-
  What is proved: Of. Conditions as stated.
-/
import Derived.Test.YtflenghnmflenaaDoorMl
namespace Go.Proofs.YtflenghnmflenaaDoor
open Go.RowKit
set_option maxRecDepth 100000

def OfP (w : World) (xs : List It) (E : Ending) (w' : World) : Prop :=
  Below w.heap.size w w' ∧ if mayI ByteArray.empty xs = true then (if xs.length ≤ 64 then ∃ g r c, E = .returned (.tuple #[.pointer (some ⟨g, 0, none⟩), .int .i64 0]) ∧ Sys w' g r c xs ∧ ∀ k, On g r k → w.heap.size ≤ k
    else E = .returned (.tuple #[.pointer none, .int .i64 6])) else E = .returned (.tuple #[.pointer none, .int .i64 1])
theorem sys_of {w W : World} (hv : Vars w) {xs : List It} (hm : mayI ByteArray.empty xs = true) (hl : xs.length ≤ 64) (hb : Below w.heap.size w W) {r : Option Nat} {c : Nat} (hr : Rw W r c xs) (hg : ∀ b, r = some b → w.heap.size ≤ b) :
    Sys (W.alloc (.cells #[.slice (slA r) xs.length c] 75)) W.heap.size r c xs ∧ ∀ k, On W.heap.size r k → w.heap.size ≤ k := by
  have hb2 : Below W.heap.size W (W.alloc (.cells #[.slice (slA r) xs.length c] 75)) := (Below.refl _ _).alloc (Nat.le_refl _) _
  have hlow := hv.low
  have hon : ∀ k, On W.heap.size r k → w.heap.size ≤ k := by
    rintro k (rfl | hk)
    · exact hb.size
    · exact hg k hk
  obtain ⟨h1, _, h3, _⟩ := mayI_rise hm
  refine ⟨⟨⟨heap_alloc_new W _, hr.kept fun b e => hb2.block b (by rw [e] at hr; exact hr.lt)⟩, (hv.below hb).below hb2, fun k hk => Nat.le_trans hlow (hon k hk), h1, hl, h3⟩, hon⟩
set_option maxHeartbeats 4000000 in
theorem of_any {w : World} (hv : Vars w) {r : Option Nat} {c : Nat} {xs : List It} (h : Rw w r c xs) (hn : xs.length ≤ 1000) :
    Calls Tryd.prog 21 #[.slice (slA r) xs.length c] w fun E w' => OfP w xs E w' := by
  have HM := Lib.hid (mayItems_any (slA r) c xs w h.its hn)
  have HR := Lib.hid h
  have HV := Lib.hid hv
  obtain ⟨z, hz⟩ : ∃ z, z = mayI ByteArray.empty xs := ⟨_, rfl⟩
  have HZ := Lib.hid hz
  rw [← hz] at HM
  have HF : Hid (∀ E W, Below w.heap.size w W → (z = true → xs.length ≤ 64 → ∃ g r c, E = .returned (.tuple #[.pointer (some ⟨g, 0, none⟩), .int .i64 0]) ∧ Sys W g r c xs ∧ ∀ k, On g r k → w.heap.size ≤ k) → (z = true → ¬ xs.length ≤ 64 → E = .returned (.tuple #[.pointer none, .int .i64 6])) → (z = false → E = .returned (.tuple #[.pointer none, .int .i64 1])) → OfP w xs E W) := Lib.hid fun E W hb h1 h2 h3 => by
    refine ⟨hb, ?_⟩
    rw [← hz]
    cases z with
    | false => exact h3 rfl
    | true =>
      rw [if_pos rfl]
      by_cases hl : xs.length ≤ 64
      · rw [if_pos hl]; exact h1 rfl hl
      · rw [if_neg hl]; exact h2 rfl hl
  have HN := Lib.hid hn
  obtain ⟨A, hA⟩ : ∃ A, A = slA r := ⟨_, rfl⟩
  have HA := Lib.hid hA
  rw [← hA] at HM ⊢
  obtain ⟨n, hnn⟩ : ∃ n, n = xs.length := ⟨_, rfl⟩
  have HL := Lib.hid hnn
  rw [← hnn] at HM hn ⊢
  clear h hv hz hA hnn
  go_enter Tryd.func21, Tryd.ntmps21
  go_wp2_with (go_at_call 30; refine HM.out.mono ?_)
  rintro E w1 ⟨rfl, b1⟩
  have HB1 := Lib.hid b1
  clear b1 HM
  cases z with
  | false =>
    go_wp2_with fail
    go_ret2
    exact HF.out _ _ HB1.out (fun h => by cases h) (fun h => by cases h) fun _ => rfl
  | true =>
    by_cases hl : n ≤ 64
    · have h1 : ¬ ((n : Int) > 64) := by omega
      have h2 : ¬ (64 < (n : Int)) := by omega
      have h3 : (n : Int) ≤ 64 := by omega
      have HC : Hid (Calls Tryd.prog 29 #[.slice A n c] w1 fun E w' => ListP w1 xs E w') := Lib.hid (by
        rw [HA.out, HL.out]
        exact clone_rw (HR.out.kept fun b e => HB1.out.block b (by have := HR.out; rw [e] at this; exact this.lt)) HN.out)
      go_wp2_with (go_at_call 29; refine HC.out.mono ?_)
      rintro E w2 ⟨r2, c2, rfl, hR2, hg2, b2⟩
      have HB2 := Lib.hid (HB1.out.trans (b2.mono HB1.out.size))
      have HS := Lib.hid (sys_of HV.out HZ.out.symm (by rw [← HL.out]; exact hl) HB2.out hR2 (fun b e => Nat.le_trans HB1.out.size (hg2 b e)))
      clear hR2 hg2 b2 HC
      go_wp2_with fail
      go_ret2
      exact HF.out _ _ (HB2.out.alloc HB2.out.size _) (fun _ _ => ⟨_, _, _, rfl, HS.out.1, HS.out.2⟩) (fun _ h => absurd (by rw [← HL.out]; exact hl) h) (fun h => by cases h)
    · have h1 : ((n : Int) > 64) := by omega
      have h2 : (64 < (n : Int)) := by omega
      go_wp2_with fail
      go_ret2
      exact HF.out _ _ HB1.out (fun _ h => absurd (by rw [HL.out]; exact h) hl) (fun _ _ => rfl) (fun h => by cases h)
end Go.Proofs.YtflenghnmflenaaDoor
