/-
  What is proved: what Sync and On do. Conditions as stated.
-/
import Derived.Test.YtfegffdhlkhjbaaDf
namespace Go.Proofs.Ytfegffdhlkhjbaa
open Go.RowKit

theorem enter33 (args : Array Value) (W : World) : (callFunc 59 args).run Try.prog W = .ok (.enter 59 args) W := by kernel_rfl
theorem enter35 (args : Array Value) (W : World) : (callFunc 35 args).run Try.prog W = .ok (.enter 35 args) W := by kernel_rfl

theorem sync1_any (i : Int) (w : World) : Calls Try.prog 59 #[.int .i64 i] w fun E w' => E = .returned (.int .u8 1) ∧ w = w' := by
  go_enter Try.func59, Try.ntmps59
  go_wp2
  go_ret
  exact ⟨rfl, rfl⟩

theorem sync_any {w : World} {S : Nat → Prop} {d T : Nat} {s : Dk} (h : DiskIs w S d T s) (hT : T < 1000000000) :
    Calls Try.prog 43 #[.pointer (some ⟨d, 0, none⟩)] w fun E w' => E = .returned (.int .i64 s.sync.2) ∧ DiskIs w' S d T s.sync.1 ∧ Turns S w w' := by
  have HR := Lib.hid (rests_any h)
  have HB := Lib.hid (burn_any h)
  have HD := Lib.hid h
  have hs : s.rests = if s.off then 8 else 0 := rfl
  unfold Dk.sync
  clear h
  by_cases ho : s.off = true
  · rw [if_pos ho]
    rw [ho, if_pos rfl] at hs
    rw [hs] at HR
    clear hs
    go_enter Try.func43, Try.ntmps43
    go_wp2_with (first | (go_at_call 54; refine HR.out.mono ?_; rintro E w1 ⟨rfl, rfl⟩))
    go_ret
    exact ⟨rfl, HD.out, Turns.refl _ _⟩
  · rw [if_neg ho]
    rw [if_neg ho] at hs
    rw [hs] at HR
    clear hs
    by_cases he : s.burn.2 ≠ 0
    · rw [if_pos he]
      generalize s.burn = p at he HB ⊢
      obtain ⟨s', e⟩ := p
      simp only at he HB ⊢
      have he' : (e == 0) = false := by simpa using he
      go_enter Try.func43, Try.ntmps43
      go_wp2_with (first
        | (go_at_call 54; refine HR.out.mono ?_; rintro E w1 ⟨rfl, rfl⟩)
        | (go_at_call 38; refine HB.out.mono ?_; rintro E w2 ⟨rfl, h2, t2⟩))
      go_ret
      exact ⟨rfl, h2, t2⟩
    · rw [if_neg he]
      have he0 : s.burn.2 = 0 := by simpa using he
      generalize s.burn = p at he0 HB ⊢
      obtain ⟨s', e⟩ := p
      simp only at he0 HB ⊢
      subst he0
      clear he
      go_enter Try.func43, Try.ntmps43
      go_wp2_with (first
        | (go_at_call 54; refine HR.out.mono ?_; rintro E w1 ⟨rfl, rfl⟩)
        | (go_at_call 38; refine HB.out.mono ?_; rintro E w2 ⟨rfl, h2, t2⟩; have H2 := Lib.hid h2; have T2 := Lib.hid t2; clear h2 t2)
        | (go_at_call 34; refine (settle_by 59 #[] enter33 (fun _ => 1) H2.out hT (fun i W _ _ => sync1_any i W)).mono ?_; rintro E w3 ⟨rfl, h3, t3⟩))
      go_ret
      exact ⟨rfl, h3, T2.out.trans t3⟩

/-- A slice that reads as these bytes; each of its blocks is P. -/
def Rd (P : Nat → Prop) (w : World) (A : Option Addr) (n : Nat) (bs : List UInt8) : Prop :=
  bs.length = n ∧ (0 < n → ∃ b o, A = some ⟨b, o, none⟩ ∧ b < w.heap.size ∧ P b ∧ ∀ j u, bs[j]? = some u → w.cell? ⟨b, o + j, none⟩ = some (.int .u8 (u.toNat : Int)))
theorem Rd.turns {P : Nat → Prop} {S : Nat → Prop} {w w' : World} {A : Option Addr} {n : Nat} {bs : List UInt8} (h : Rd P w A n bs) (ht : Turns S w w') (hs : ∀ b, P b → ¬ S b) : Rd P w' A n bs := by
  refine ⟨h.1, fun hn => ?_⟩
  obtain ⟨b, o, e, hb, hp, hc⟩ := h.2 hn
  exact ⟨b, o, e, Nat.lt_of_lt_of_le hb ht.size, hp, fun j u hu => (World.cell?_of_block (a := ⟨b, o + j, none⟩) (ht.block b hb (hs b hp))).trans (hc j u hu)⟩

theorem on1_any {P : Nat → Prop} {w : World} {A : Option Addr} {n c : Nat} {bs : List UInt8} (q : Nat) (hq : w.cell? ⟨q, 0, none⟩ = some (.slice A n c)) (hr : Rd P w A n bs) (hs : Sl A n c) (i : Nat) :
    Calls Try.prog 35 #[.int .i64 (i : Int), .pointer (some ⟨q, 0, none⟩)] w fun E w' => E = .returned (.int .u8 ((bs.getD i 0).toNat : Int)) ∧ w = w' := by
  by_cases hi : i < n
  · obtain ⟨b, o, rfl, hb, _, hc⟩ := hr.2 (by omega)
    have hl := hr.1
    have ci := hc i _ (List.getElem?_eq_getElem (by omega))
    have e : bs.getD i 0 = bs[i] := by rw [List.getD_eq_getElem?_getD, List.getElem?_eq_getElem (by omega)]; rfl
    rw [e]
    generalize bs[i] = u at ci ⊢
    have hsc := hs.2
    clear hc hr e
    go_enter Try.func35, Try.ntmps35
    go_wp2
    go_ret
    exact ⟨rfl, rfl⟩
  · have e : bs.getD i 0 = 0 := by rw [List.getD_eq_getElem?_getD, List.getElem?_eq_none (by have := hr.1; omega)]; rfl
    rw [e]
    clear e hr
    go_enter Try.func35, Try.ntmps35
    go_wp2
    go_ret
    exact ⟨rfl, rfl⟩

theorem on_any {w : World} {S : Nat → Prop} {d T : Nat} {s : Dk} (h : DiskIs w S d T s) (hT : T < 1000000000) (A : Option Addr) (n c : Nat) (bs : List UInt8) (hr : Rd (fun b => ¬ S b) w A n bs) (hs : Sl A n c) :
    Calls Try.prog 16 #[.pointer (some ⟨d, 0, none⟩), .slice A n c] w fun E w' => E = .returned (.int .i64 (s.on bs).2) ∧ DiskIs w' S d T (s.on bs).1 ∧ Turns S w w' := by
  have hSd := h.here
  have hlt := h.lt
  have H1 := h.alloc (.cells #[.slice A n c] 29)
  have HR1 : Hid (Rd (fun b => ¬ S b) (w.alloc (.cells #[.slice A n c] 29)) A n bs) := Lib.hid (hr.turns ((Turns.refl S w).alloc _) (fun _ h => h))
  have HT1 : Hid (Turns S w (w.alloc (.cells #[.slice A n c] 29))) := Lib.hid ((Turns.refl S w).alloc _)
  have hq1 := row_new w [.slice A n c] 29
  obtain ⟨fused, left, ms, ml, mn, L, gs, gl, gn, h1⟩ := H1
  obtain ⟨c0, _⟩ := h1.cells
  have f0 := free_block h1.hd 0
  have HD := Lib.hid h1
  have HQ := Lib.hid hq1
  have HS := Lib.hid hs
  unfold Dk.on
  clear h h1 hr hq1
  by_cases ho : s.off = true
  · rw [if_pos ho]
    have HQS : Hid (¬ S w.heap.size) := Lib.hid (fun e => by have := hlt _ e; omega)
    generalize hW : w.alloc (.cells #[.slice A n c] 29) = W at *
    have HQ' : Hid (W.heap[w.heap.size]? = some (.cells [Value.slice A n c].toArray 29 (0, 0))) := Lib.hid (by rw [← hW]; exact row_new w _ _)
    clear HQ
    go_enter Try.func16, Try.ntmps16
    rw [ho] at c0
    go_wp2_with (first
      | (go_at_call 11; refine (fuse_any ⟨_, _, _, _, _, _, _, _, _, HD.out.set0 false⟩ (-1) (by omega)).mono ?_; rintro E w2 ⟨rfl, h2, t2⟩; have H2 := Lib.hid h2; have T2 : Hid (Turns S W w2) := Lib.hid ((turns_cell hSd _ _).trans t2); clear h2 t2)
      | (go_at_call 34; refine (settle_by 35 #[.pointer (some ⟨w.heap.size, 0, none⟩)] enter35 (fun i => (bs.getD i 0).toNat) H2.out hT (fun i W' _ ht => on1_any w.heap.size (block_cell (((T2.out.trans ht).block _ (Array.getElem?_eq_some_iff.1 HQ'.out).1 HQS.out).trans HQ'.out) 0 _ rfl) (HR1.out.turns (T2.out.trans ht) (fun _ h => h)) HS.out i)).mono ?_; rintro E w3 ⟨rfl, h3, t3⟩))
    go_ret
    exact ⟨rfl, h3, (HT1.out.trans T2.out).trans t3⟩
  · rw [if_neg ho]
    have ho' : s.off = false := by simpa using ho
    rw [ho'] at c0
    go_enter Try.func16, Try.ntmps16
    go_wp2
    go_ret
    exact ⟨rfl, ⟨_, _, _, _, _, _, _, _, _, HD.out⟩, HT1.out⟩
end Go.Proofs.Ytfegffdhlkhjbaa
