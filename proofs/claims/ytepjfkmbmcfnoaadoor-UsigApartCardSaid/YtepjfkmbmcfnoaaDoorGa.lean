/-
  What is proved: what the plain parts of a counter answer (isReplica, mayBe, sealed, ended, sound, tagged). Conditions as stated.
-/
import Derived.Test.YtepjfkmbmcfnoaaDoorS7
import Derived.Test.YtepjfkmbmcfnoaaDoorK10
namespace Go.Proofs.YtepjfkmbmcfnoaaDoor
open Go.RowKit
set_option maxRecDepth 100000

theorem rd_sh {w : World} {A : Option Addr} {n : Nat} {bs : List UInt8} (h : Oct.Rd w A n bs) : Sh.Rd (fun _ => True) w A n bs :=
  ⟨h.1, fun hn => let ⟨b, o, e, hb, hc⟩ := h.2 hn; ⟨b, o, e, hb, trivial, hc⟩⟩
theorem rd_of_sh {P : Nat → Prop} {w : World} {A : Option Addr} {n : Nat} {bs : List UInt8} (h : Sh.Rd P w A n bs) : Oct.Rd w A n bs :=
  ⟨h.1, fun hn => let ⟨b, o, e, hb, _, hc⟩ := h.2 hn; ⟨b, o, e, hb, hc⟩⟩
theorem rd_of_dk {P : Nat → Prop} {w : World} {A : Option Addr} {n : Nat} {bs : List UInt8} (h : Rd P w A n bs) : Oct.Rd w A n bs :=
  ⟨h.1, fun hn => let ⟨b, o, e, hb, _, hc⟩ := h.2 hn; ⟨b, o, e, hb, hc⟩⟩

/-- Is it a replica? -/
def isRep (i : Int) : Bool := decide (1 ≤ i ∧ i ≤ 11)
theorem repKey_len (i : Int) : (Sh.repKey i).length = if isRep i then 32 else 0 := by
  unfold Sh.repKey Sh.keyI isRep
  by_cases h : i < 1 ∨ 11 < i
  · rw [if_pos h, if_neg (by simp; omega)]
    rfl
  · rw [if_neg h, Sh.sumOf_length, if_pos (by simp; omega)]

theorem isReplica_any (i : Int) (w : World) (hk : Sh.KIs w) (h0 : 0 < w.heap.size) :
    Calls Tryd.prog 27 #[.int .i64 i] w fun E w' => E = .returned (.bool (isRep i)) ∧ Below w.heap.size w w' := by
  have HR := Lib.hid (Sh.replica_any i w hk h0)
  have hl := repKey_len i
  generalize Sh.repKey i = key at HR hl
  cases hi : isRep i with
  | true =>
    rw [hi, if_pos rfl] at hl
    rw [hl] at HR
    clear hi hk
    go_enter Tryd.func27, Tryd.ntmps27
    go_wp2_with (go_at_call 51; refine HR.out.mono ?_; rintro E w1 ⟨A, c, rfl, H1, hb1⟩)
    go_ret
    exact ⟨rfl, hb1⟩
  | false =>
    rw [hi, if_neg (by simp)] at hl
    rw [hl] at HR
    clear hi hk
    go_enter Tryd.func27, Tryd.ntmps27
    go_wp2_with (go_at_call 51; refine HR.out.mono ?_; rintro E w1 ⟨A, c, rfl, H1, hb1⟩)
    go_ret
    exact ⟨rfl, hb1⟩

/-- May a number be given for so many bytes? -/
def mayN (n m : Nat) : Bool := decide (1 ≤ n ∧ n ≤ 65536 ∧ m ≤ 1024)
theorem mayBe_any (n m c : Nat) (A : Option Addr) (w : World) : Calls Tryd.prog 31 #[.int .u64 (n : Int), .slice A m c] w fun E w' => E = .returned (.bool (mayN n m)) ∧ w = w' := by
  by_cases h1 : 1 ≤ n
  · by_cases h2 : n ≤ 65536
    · have e : mayN n m = decide ((m : Int) ≤ 1024) := by rw [mayN]; congr 1; rw [eq_iff_iff]; omega
      rw [e]
      clear e
      go_enter Tryd.func31, Tryd.ntmps31
      go_wp2
      go_ret
      exact ⟨rfl, rfl⟩
    · have e : mayN n m = false := by simp [mayN]; omega
      rw [e]
      clear e
      go_enter Tryd.func31, Tryd.ntmps31
      go_wp2
      go_ret
      exact ⟨rfl, rfl⟩
  · have e : mayN n m = false := by simp [mayN]; omega
    rw [e]
    clear e
    go_enter Tryd.func31, Tryd.ntmps31
    go_wp2
    go_ret
    exact ⟨rfl, rfl⟩

/-- What bytes of a cell tell: the number and the bytes behind it. -/
def sealN (bs : List UInt8) : Nat := if 8 ≤ bs.length then Oct.num (bs.take 8) else 0
def sealB (bs : List UInt8) : List UInt8 := if 8 ≤ bs.length then bs.drop 8 else []
theorem sealN_lt (bs : List UInt8) : sealN bs < 18446744073709551616 := by
  unfold sealN
  split
  · have h : Oct.num (bs.take 8) < 256 ^ 8 := Oct.num_lt 8 _ (by rw [List.length_take]; omega)
    omega
  · omega
theorem seal_word (rem : List UInt8) : Hid (∀ (lo g : Nat) (wx : World), Oct.CutAt wx lo g rem false → Calls Tryd.prog 54 #[.pointer (some ⟨g, 0, none⟩)] wx fun E w' => E = .returned (.int .u64 (sealN rem : Int)) ∧
    Hid (Oct.CutAt w' lo g (if 8 ≤ rem.length then rem.drop 8 else rem) (decide (rem.length < 8))) ∧ Hid (wx.grownBy w' (some g))) := Lib.hid fun lo g wx h => by
  have := Oct.word_cut g rem false wx h
  by_cases h8 : 8 ≤ rem.length
  · rw [show (8 : Int) = ((8 : Nat) : Int) from rfl, (tk_nat (k := 8) h8).1, (tk_nat (k := 8) h8).2, fits_nat (k := 8) h8] at this
    have e : decide (rem.length < 8) = false := by simp; omega
    rw [if_pos h8, e, sealN, if_pos h8]
    exact this.mono fun E w' ⟨h1, h2, h3⟩ => ⟨h1, Lib.hid h2, Lib.hid h3⟩
  · have hf : Oct.fits rem false 8 = false := by simp [Oct.fits]; omega
    rw [(Oct.tk_not hf).1, (Oct.tk_not hf).2, hf] at this
    have e : decide (rem.length < 8) = true := by simp; omega
    rw [if_neg h8, e, sealN, if_neg h8]
    exact this.mono fun E w' ⟨h1, h2, h3⟩ => ⟨h1, Lib.hid h2, Lib.hid h3⟩
theorem seal_raw (bs : List UInt8) (k : Nat) (hk : k = (if 8 ≤ bs.length then bs.drop 8 else bs).length) : Hid (∀ (lo g : Nat) (wx : World), Oct.CutAt wx lo g (if 8 ≤ bs.length then bs.drop 8 else bs) (decide (bs.length < 8)) → Calls Tryd.prog 55 #[.pointer (some ⟨g, 0, none⟩), .int .i64 (k : Int)] wx fun E w' => ∃ A' c', E = .returned (.slice A' (sealB bs).length c') ∧
    Hid (w'.ownsRow wx.heap.size 5 1 (.slice A' (sealB bs).length c') (sealB bs).length (u8s (sealB bs)) ∧ Oct.Sl A' (sealB bs).length c') ∧ Hid (wx.grownBy w' (some g))) := Lib.hid fun lo g wx h => by
  subst hk
  have := Oct.raw_cut g _ _ ((if 8 ≤ bs.length then bs.drop 8 else bs).length : Int) wx h
  by_cases h8 : 8 ≤ bs.length
  · have e : decide (bs.length < 8) = false := by simp; omega
    rw [e] at this
    simp only [if_pos h8] at this ⊢
    rw [(tk_nat (rem := bs.drop 8) (k := (bs.drop 8).length) (Nat.le_refl _)).1, List.take_length] at this
    have e2 : sealB bs = bs.drop 8 := by rw [sealB, if_pos h8]
    rw [e2]
    exact this.mono fun E w' ⟨A', m, c', h1, h2, h3, h4⟩ => by
      obtain ⟨rfl, h5⟩ := h2.out
      exact ⟨A', c', h1, Lib.hid h5, Lib.hid h4⟩
  · have e : decide (bs.length < 8) = true := by simp; omega
    rw [e] at this
    simp only [if_neg h8] at this ⊢
    have hf : Oct.fits bs true (bs.length : Int) = false := by simp [Oct.fits]
    rw [(Oct.tk_not hf).1] at this
    have e2 : sealB bs = [] := by rw [sealB, if_neg h8]
    rw [e2]
    exact this.mono fun E w' ⟨A', m, c', h1, h2, h3, h4⟩ => by
      obtain ⟨rfl, h5⟩ := h2.out
      exact ⟨A', c', h1, Lib.hid h5, Lib.hid h4⟩
theorem seal_left (rem : List UInt8) (sp : Bool) (k : Nat) (hk : k = rem.length) : Hid (∀ (lo g : Nat) (wx : World), Oct.CutAt wx lo g rem sp → Calls Tryd.prog 56 #[.pointer (some ⟨g, 0, none⟩)] wx fun E w' => E = .returned (.int .i64 (k : Int)) ∧ ∃ q, w' = wx.drewN q) := Lib.hid fun lo g wx h => by
  subst hk
  exact Oct.left_any g rem sp wx h

section
variable {w wr : World} {d T : Nat} {s : Dk} {L : List (Nat × Obj)} {x : Int} {g : Nat} {bs : List UInt8} {slot : Int}
theorem get_own (h : OpAt w d T s x L g bs slot wr) :
    Calls Tryd.prog 52 #[.pointer (some ⟨g, 0, none⟩)] wr fun E w' => ∃ A c, E = .returned (.slice A bs.length c) ∧ Hid (Oct.Rd w' A bs.length bs ∧ Oct.Sl A bs.length c ∧ bs.length ≤ 1100) ∧ Hid (Below wr.heap.size wr w') := by
  obtain ⟨A, n, c, hg, hr, hs, hn⟩ := h.cells
  obtain rfl := hr.1
  exact (get_any hg bs hr hs hn).mono fun E w' ⟨A', c', e, ho, hs2, hb⟩ => ⟨A', c', e, Lib.hid ⟨Oct.Rd.of_own ho, hs2, hn⟩, Lib.hid hb⟩

theorem sealed_any (h : OpAt w d T s x L g bs slot wr) (i : Int) :
    Calls Tryd.prog 29 #[.agg #[.pointer (some ⟨g, 0, none⟩), .int .i64 i]] wr fun E w' => ∃ A c, E = .returned (.tuple #[.int .u64 (sealN bs : Int), .slice A (sealB bs).length c]) ∧
      Hid (w'.ownsRow wr.heap.size 5 1 (.slice A (sealB bs).length c) (sealB bs).length (u8s (sealB bs)) ∧ Oct.Sl A (sealB bs).length c) ∧ Hid (Below wr.heap.size wr w') := by
  have HG := Lib.hid (get_own (h.lit (.cells #[.pointer (some ⟨g, 0, none⟩), .int .i64 i] 71 (0, 0))))
  have HW := seal_word bs
  have HB0 : Hid (Below wr.heap.size wr (wr.alloc (.cells #[.pointer (some ⟨g, 0, none⟩), .int .i64 i] 71 (0, 0)))) := Lib.hid ((Below.refl _ _).alloc (Nat.le_refl _) _)
  obtain ⟨r, hr⟩ : ∃ r, r = if 8 ≤ bs.length then bs.drop 8 else bs := ⟨_, rfl⟩
  obtain ⟨k, hk⟩ : ∃ k, k = r.length := ⟨_, rfl⟩
  have HR := seal_raw bs k (by rw [hk, hr])
  have HL := seal_left r (decide (bs.length < 8)) k hk
  rw [← hr] at HW HR
  generalize decide (bs.length < 8) = sp at HW HR HL
  generalize sealN bs = num at HW ⊢
  generalize sealB bs = rest at HR ⊢
  clear hk hr h
  go_enter Tryd.func29, Tryd.ntmps29
  go_wp2_with fail
  refine HG.out.mono ?_
  rintro E w1 ⟨A1, c1, rfl, H1, hb1⟩
  have HB1 : Hid (Below wr.heap.size wr w1) := Lib.hid (HB0.out.trans (hb1.out.mono (by simp)))
  have HN := Lib.hid (Oct.new_any A1 bs.length c1 bs w1 H1.out.1 H1.out.2.1 (by have := H1.out.2.2; omega))
  clear hb1 HG HB0
  go_wp2_with fail
  refine HN.out.mono ?_
  rintro E w2 ⟨gc, rfl, hgc, hcut, hb2⟩
  have HB2 : Hid (Below wr.heap.size wr w2 ∧ wr.heap.size ≤ gc) := Lib.hid ⟨HB1.out.trans (hb2.mono HB1.out.size), Nat.le_trans HB1.out.size hgc⟩
  have HC := Lib.hid hcut
  clear hgc hcut hb2 HN
  go_wp2_with fail
  refine (HW.out _ _ _ HC.out).mono ?_
  rintro E w3 ⟨rfl, HC3, HG3⟩
  have HB3 : Hid (Below wr.heap.size wr w3) := Lib.hid (below_gb' HB2.out.1 HG3.out HB2.out.2 HB2.out.1.size)
  clear HW
  go_wp2_with fail
  refine (HL.out _ _ _ HC3.out).mono ?_
  rintro E w4 ⟨rfl, q, rfl⟩
  go_wp2_with fail
  refine (HR.out _ _ _ (HC3.out.drewN q)).mono ?_
  rintro E w5 ⟨A5, c5, rfl, H5, HG5⟩
  go_wp2_with fail
  go_ret2
  exact ⟨A5, c5, rfl, Lib.hid ⟨own_base H5.out.1 HB3.out.size, H5.out.2⟩, Lib.hid (below_gb' (Sh.below_drewN HB3.out q) HG5.out HB2.out.2 HB3.out.size)⟩
end
end Go.Proofs.YtepjfkmbmcfnoaaDoor
