/-
  What is proved: what renew and Put do. Conditions as stated.
-/
import Derived.Test.YtfegffdhlkhjbaaCj
namespace Go.Proofs.Ytfegffdhlkhjbaa
open Go.RowKit
set_option maxRecDepth 100000

/-- A slot is written anew, and synced. -/
def renewD (s : Dk) (at' slot : Int) (bs : List UInt8) : Dk × Int :=
  if (wrs s (at' + slot * 10) (sect (topGo s at' 20 + 1) bs) 10).2 ≠ 0 then wrs s (at' + slot * 10) (sect (topGo s at' 20 + 1) bs) 10 else (wrs s (at' + slot * 10) (sect (topGo s at' 20 + 1) bs) 10).1.sync

theorem renew_any {w wr : World} {d T : Nat} {s : Dk} {L : List (Nat × Obj)} (h : Dat w d T s L wr) (hoff : s.off = false) (hT : T < 10000000) (at' slot : Int) (hat : 0 ≤ at' ∧ at' ≤ 32748) (hsl : 0 ≤ slot ∧ slot ≤ 1) (htop : topGo s at' 20 < 9223372036854775808)
    (A : Option Addr) (n c : Nat) (bs : List UInt8) (hb : Src w L A n bs) (hs : Oct.Sl A n c) (hn : n ≤ 1100) :
    Calls Try.prog 47 #[.agg #[.pointer (some ⟨d, 0, none⟩), .int .i64 at'], .int .i64 slot, .slice A n c] wr fun E w' => E = .returned (.int .i64 (renewD s at' slot bs).2) ∧ Dat w d (T + 10) (renewD s at' slot bs).1 L w' := by
  obtain ⟨tk, htk⟩ : ∃ tk, tk = topGo s at' 20 := ⟨_, rfl⟩
  have HD : Hid (Dat w d T s ((wr.heap.size, .cells #[.pointer (some ⟨d, 0, none⟩), .int .i64 at'] 79 (0, 0)) :: L) (wr.alloc (.cells #[.pointer (some ⟨d, 0, none⟩), .int .i64 at'] 79))) := Lib.hid (h.alloc _)
  have HGR := Lib.hid (greatest_any HD.out hoff at' hat)
  rw [← htk] at HGR
  obtain ⟨p, hp⟩ : ∃ p, p = wrs s (at' + slot * 10) (sect (tk + 1) bs) 10 := ⟨_, rfl⟩
  have HRD : Hid (renewD s at' slot bs = if p.2 ≠ 0 then p else p.1.sync) := Lib.hid (by rw [renewD, ← htk, ← hp])
  have hcast : ((tk + 1 : Nat) : Int) = (tk : Int) + 1 := by omega
  obtain ⟨Lq, hLq⟩ : ∃ Lq, Lq = (wr.heap.size, Obj.cells #[.pointer (some ⟨d, 0, none⟩), .int .i64 at'] 79 (0, 0)) :: L := ⟨_, rfl⟩
  rw [← hLq] at HD
  have HWR : Hid (∀ W, Dat w d T s Lq W → Calls Try.prog 42 #[.agg #[.pointer (some ⟨d, 0, none⟩), .int .i64 at'], .int .i64 slot, .int .u64 ((tk : Int) + 1), .slice A n c] W fun E w' => E = .returned (.int .i64 p.2) ∧ Dat w d (T + 10) p.1 Lq w') := Lib.hid fun W hW => by
    have := slot_write hW (by omega) at' slot hat hsl (tk + 1) A n c bs (fun W hb1 hb2 => hb W hb1 (fun q hq => hb2 q (by rw [hLq]; exact .tail _ hq))) hs hn
    rw [hcast, ← hp] at this
    exact this
  have HC : Hid (∀ (T' : Nat) (s' : Dk) W, Dat w d T' s' Lq W → W.cell? ⟨wr.heap.size, 0, none⟩ = some (.pointer (some ⟨d, 0, none⟩)) ∧ W.cell? ⟨wr.heap.size, 1, none⟩ = some (.int .i64 at')) := Lib.hid fun T' s' W hW => by
    have hg := hW.get (q := wr.heap.size) (o := .cells #[.pointer (some ⟨d, 0, none⟩), .int .i64 at'] 79 (0, 0)) (by rw [hLq]; exact .head _)
    exact ⟨block_cell (C := [.pointer (some ⟨d, 0, none⟩), .int .i64 at']) hg 0 _ rfl, block_cell (C := [.pointer (some ⟨d, 0, none⟩), .int .i64 at']) hg 1 _ rfl⟩
  have HSUB : Hid (∀ (T' : Nat) (s' : Dk) W, Dat w d T' s' Lq W → Dat w d T' s' L W) := Lib.hid fun T' s' W hW => by rw [hLq] at hW; exact hW.drop
  rw [← htk] at htop
  clear h hb hs htk hp hLq hcast
  go_enter Try.func47, Try.ntmps47
  go_wp2_with fail
  refine HGR.out.mono ?_
  rintro E w1 ⟨rfl, hb1⟩
  have D1 := Lib.hid (HD.out.next hb1)
  obtain ⟨c0, c1⟩ := HC.out _ _ _ D1.out
  clear hb1 HD HGR
  go_wp2_with fail
  refine (HWR.out _ D1.out).mono ?_
  rintro E w2 ⟨rfl, h2⟩
  have D2 := Lib.hid h2
  obtain ⟨k0, k1⟩ := HC.out _ _ _ D2.out
  clear h2 D1 HWR c0 c1
  by_cases hp0 : p.2 = 0
  · have HR2 : Hid (renewD s at' slot bs = p.1.sync) := Lib.hid (by rw [HRD.out, if_neg (by simp [hp0])])
    have HS := Lib.hid (dat_sync D2.out (by omega))
    generalize p.2 = e0 at hp0 ⊢
    subst hp0
    go_wp2_with (first | (go_at_call 43; refine HS.out.mono ?_; rintro E w3 ⟨rfl, h3⟩))
    go_ret
    rw [HR2.out]
    exact ⟨rfl, HSUB.out _ _ _ h3⟩
  · have HR2 : Hid (renewD s at' slot bs = p) := Lib.hid (by rw [HRD.out, if_pos hp0])
    generalize hp2 : p.2 = e0 at hp0 ⊢
    have HP2 := Lib.hid hp2
    clear hp2
    go_wp2_with fail
    go_ret
    rw [HR2.out, HP2.out]
    exact ⟨rfl, HSUB.out _ _ _ D2.out⟩

/-- A row that was made just now is the call's own. -/
theorem own_src {w w0 w1 : World} {d T : Nat} {s : Dk} {L : List (Nat × Obj)} (h : Dat w d T s L w0) (hb : Below w0.heap.size w0 w1) {A : Option Addr} {n c B : Nat} {bs : List UInt8} (ho : w1.ownsRow B 5 1 (.slice A n c) n (u8s bs)) (hB : w0.heap.size ≤ B) :
    ∃ LR, Dat w d T s (LR ++ L) w1 ∧ Src w LR A n bs ∧ ∀ p ∈ LR, w0.heap.size ≤ p.1 := by
  rcases Nat.eq_zero_or_pos n with rfl | hp
  · have hl : bs.length = 0 := (Oct.Rd.of_own ho).1
    exact ⟨[], h.next hb, fun W _ _ => ⟨hl, fun h => absurd h (by omega)⟩, fun p hp => by cases hp⟩
  · obtain ⟨g, cap, cur, hv, hBg, _, _, hg, hr⟩ := own_block ho hp
    injection hv with hv1 hv2 hv3
    subst hv1
    exact ⟨[(g, .cells cur 5 (0, 0))], keeps_dat.toKeep.fresh h hb (by omega) hg, fun W _ hL => hr W (hL _ (.head _)), fun p hp => by simp only [List.mem_singleton] at hp; subst hp; exact Nat.le_trans hB hBg⟩
end Go.Proofs.Ytfegffdhlkhjbaa
