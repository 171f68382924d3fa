/-
  What is proved: what Next and Last of a counter answer. Conditions as stated.
-/
import Derived.Test.YtepjfkmbmcfnoaaDoorGd
namespace Go.Proofs.YtepjfkmbmcfnoaaDoor
open Go.RowKit
set_option maxRecDepth 100000

theorem tag_size : (Tryd.prog.info? 36).map (·.size) = some 32 := Sh.Tryd.size36
theorem tag_info {l : List UInt8} (h : l.length = 32) : (Tryd.prog.info? 36).map (·.size) = some (u8s l).length := by rw [u8s_length, h]; exact tag_size
theorem tag_any (p : Value) (i : Int) (num : Nat) {A : Option Addr} {m c : Nat} {b : List UInt8} {w : World} (hr : Oct.Rd w A m b) (hs : Oct.Sl A m c) (hL : m < 1000000000000) (hk : Sh.KIs w) (h0 : 0 < w.heap.size) :
    Calls Tryd.prog 30 #[.agg #[p, .int .i64 i], .int .u64 num, .slice A m c] w fun E w' => E = .returned (tagV (Sh.numTag i num b)) ∧ Below w.heap.size w w' :=
  tagged_by p i num A m c w _ (Sh.numTag_length _ _ _) fun W hb => Sh.numbered_any i num b A m c W (rd_sh (hr.below hb)) hs hL (hk.below hb h0) (Nat.lt_of_lt_of_le h0 hb.size)

section
variable {w wr w0 w1 : World} {d T : Nat} {s s' : Dk} {L : List (Nat × Obj)} {x : Int} {g u : Nat} {bs b : List UInt8} {slot e : Int}
theorem OpAt.kis (h : OpAt w d T s x L g bs slot wr) (hk : Sh.KIs w) (h0 : 0 < w.heap.size) : Sh.KIs wr ∧ 0 < wr.heap.size := ⟨hk.below h.dat.below h0, Nat.lt_of_lt_of_le h0 h.dat.below.size⟩
theorem Dat.kis (h : Dat w d T s L wr) (hk : Sh.KIs w) (h0 : 0 < w.heap.size) : Sh.KIs wr ∧ 0 < wr.heap.size := ⟨hk.below h.below h0, Nat.lt_of_lt_of_le h0 h.below.size⟩

/-- What Last tells beside the number. -/
def lastB (bs : List UInt8) : List UInt8 := if sealN bs = 0 then [] else sealB bs
def lastT (i : Int) (bs : List UInt8) : List UInt8 := if sealN bs = 0 then noTag else Sh.numTag i (sealN bs) (sealB bs)
theorem nil_last (wr : World) : Calls Tryd.prog 13 #[.pointer none] wr fun E w' => E = .returned (.tuple #[.int .u64 0, .slice none 0 0, tagV noTag]) ∧ Hid (Below wr.heap.size wr w') := by
  obtain ⟨Z, hZ⟩ : ∃ Z, Z = u8s noTag := ⟨_, rfl⟩
  have hz : ∀ w, (zeroValue 36).run Tryd.prog w = .ok (.agg Z.toArray) w := by rw [hZ]; exact zero_tag
  have hbd : ∀ w, (Instr.build 36 #[]).run Tryd.prog w = .ok (.agg Z.toArray) w := by rw [hZ]; exact build_tag
  have HI : Hid ((Tryd.prog.info? 36).map (·.size) = some Z.length) := Lib.hid (by rw [hZ]; exact tag_info rfl)
  have HO : Hid (∀ v ∈ Z, v.oneCell' = true) := Lib.hid (by rw [hZ]; exact u8s_one _)
  have HA : Hid (Below wr.heap.size wr (wr.alloc (.cells Z.toArray 36)) ∧ (wr.alloc (.cells Z.toArray 36)).heap[wr.heap.size]? = some (.cells Z.toArray 36 (0, 0))) := Lib.hid ⟨(Below.refl _ _).alloc (Nat.le_refl _) _, row_new _ _ _⟩
  unfold tagV
  rw [← hZ]
  clear hZ
  go_enter Tryd.func13, Tryd.ntmps13
  go_wp2_with (first | (refine wpList_store_all rfl 36 (.tmp 4) (.tmp 7) rfl wr.heap.size Z Z 36 HA.out.2 rfl rfl rfl HI.out HO.out ?_; intro w2 G2))
  exact bodyPost_ret (ret_ttc (cs := Z) rfl rfl rfl rfl (range_block G2.out.1 0 _ (fun j v hv => by rw [Nat.zero_add]; exact hv)) Tryd.underlying36 rfl HI.out) rfl ⟨rfl, Lib.hid (below_gb HA.out.1 G2.out.2 (Nat.le_refl _) HA.out.1.size)⟩

set_option maxHeartbeats 1000000 in
theorem last_us (h : OpAt w d T s x L g bs slot wr) (i : Int) (hu : (u, usOf g i) ∈ L) (hk : Sh.KIs w) (h0 : 0 < w.heap.size) :
    Calls Tryd.prog 13 #[.pointer (some ⟨u, 0, none⟩)] wr fun E w' => ∃ A c, E = .returned (.tuple #[.int .u64 (sealN bs : Int), .slice A (lastB bs).length c, tagV (lastT i bs)]) ∧
      Hid (w'.ownsRow wr.heap.size 5 1 (.slice A (lastB bs).length c) (lastB bs).length (u8s (lastB bs)) ∧ Oct.Sl A (lastB bs).length c) ∧ Hid (Below wr.heap.size wr w') := by
  obtain ⟨Z, hZ⟩ : ∃ Z, Z = u8s noTag := ⟨_, rfl⟩
  have hz : ∀ w, (zeroValue 36).run Tryd.prog w = .ok (.agg Z.toArray) w := by rw [hZ]; exact zero_tag
  have hbd : ∀ w, (Instr.build 36 #[]).run Tryd.prog w = .ok (.agg Z.toArray) w := by rw [hZ]; exact build_tag
  have HIZ : Hid ((Tryd.prog.info? 36).map (·.size) = some Z.length) := Lib.hid (by rw [hZ]; exact tag_info rfl)
  have HOZ : Hid (∀ v ∈ Z, v.oneCell' = true) := Lib.hid (by rw [hZ]; exact u8s_one _)
  have HZZ := Lib.hid hZ
  have HA : Hid (Below wr.heap.size wr (wr.alloc (.cells Z.toArray 36)) ∧ (wr.alloc (.cells Z.toArray 36)).heap[wr.heap.size]? = some (.cells Z.toArray 36 (0, 0))) := Lib.hid ⟨(Below.refl _ _).alloc (Nat.le_refl _) _, row_new _ _ _⟩
  have HO := Lib.hid (h.lit (.cells Z.toArray 36 (0, 0)))
  obtain ⟨c0, c1⟩ := usOf_cells (HO.out.get (.tail _ hu))
  have HU := Lib.hid hu
  have HK := Lib.hid hk
  have HSE := Lib.hid (sealed_any HO.out i)
  have HT : Hid (∀ (A : Option Addr) (c : Nat) (W : World), Below wr.heap.size wr W → Oct.Rd W A (sealB bs).length (sealB bs) → Oct.Sl A (sealB bs).length c → (sealB bs).length ≤ 1100 → Calls Tryd.prog 30 #[.agg #[.pointer (some ⟨g, 0, none⟩), .int .i64 i], .int .u64 (sealN bs : Int), .slice A (sealB bs).length c] W fun E w' => E = .returned (tagV (Sh.numTag i (sealN bs) (sealB bs))) ∧ Below W.heap.size W w') := Lib.hid fun A c W hb hr hs hl => by
    obtain ⟨k1, k2⟩ := h.kis hk h0
    exact tag_any _ i (sealN bs) hr hs (by omega) (k1.below hb k2) (Nat.lt_of_lt_of_le k2 hb.size)
  have HLN : Hid ((sealB bs).length ≤ 1100) := Lib.hid (by
    obtain ⟨_, n, _, _, hr, _, hn⟩ := h.cells
    have := hr.1
    unfold sealB
    split
    · rw [List.length_drop]; omega
    · simp)
  have hTL := Sh.numTag_length i (sealN bs) (sealB bs)
  have hlb : lastB bs = if sealN bs = 0 then [] else sealB bs := rfl
  have hlt : lastT i bs = if sealN bs = 0 then noTag else Sh.numTag i (sealN bs) (sealB bs) := rfl
  generalize Sh.numTag i (sealN bs) (sealB bs) = tg at HT hTL hlt
  have HI : Hid ((Tryd.prog.info? 36).map (·.size) = some (u8s tg).length) := Lib.hid (tag_info hTL)
  have HOT : Hid (∀ v ∈ u8s tg, v.oneCell' = true) := Lib.hid (u8s_one _)
  have HLL : Hid (Z.length = (u8s tg).length) := Lib.hid (by rw [hZ, u8s_length, u8s_length, hTL]; rfl)
  clear h hk hu hZ
  by_cases hn : sealN bs = 0
  · rw [if_pos hn] at hlb hlt
    rw [hlb, hlt, hn]
    rw [hn] at HSE
    unfold tagV
    rw [← HZZ.out]
    generalize sealB bs = rest at HSE
    clear hlb hlt hn HT HLN HI HOT HLL hTL
    go_enter Tryd.func13, Tryd.ntmps13
    go_wp2_with fail
    refine HSE.out.mono ?_
    rintro E w1 ⟨A1, cc1, rfl, H1, HB⟩
    have HB1 : Hid (Below wr.heap.size wr w1 ∧ w1.heap[wr.heap.size]? = some (.cells Z.toArray 36 (0, 0))) := Lib.hid ⟨HA.out.1.trans (HB.out.mono HA.out.1.size), (HB.out.block _ (by simp)).trans HA.out.2⟩
    go_wp2_with (first | (refine wpList_store_all rfl 36 (.tmp 4) (.tmp 18) rfl wr.heap.size Z Z 36 HB1.out.2 rfl rfl rfl HIZ.out HOZ.out ?_; intro w2 G2))
    exact bodyPost_ret (ret_ttc (cs := Z) rfl rfl rfl rfl (range_block G2.out.1 0 _ (fun j v hv => by rw [Nat.zero_add]; exact hv)) Tryd.underlying36 rfl HIZ.out) rfl ⟨none, 0, rfl, Lib.hid ⟨World.ownsRow_nil _ _ _ _, sl_nil⟩, Lib.hid (below_gb HB1.out.1 G2.out.2 (Nat.le_refl _) HB1.out.1.size)⟩
  · rw [if_neg hn] at hlb hlt
    rw [hlb, hlt]
    obtain ⟨num, hnum⟩ : ∃ num, num = sealN bs := ⟨_, rfl⟩
    have hz0 : ((num : Int) == 0) = false := by rw [hnum]; simpa using hn
    rw [← hnum] at HSE HT ⊢
    generalize sealB bs = rest at HSE HT HLN ⊢
    unfold tagV at *
    clear hlb hlt hn hTL hnum hbd
    go_enter Tryd.func13, Tryd.ntmps13
    go_wp2_with fail
    refine HSE.out.mono ?_
    rintro E w1 ⟨A1, cc1, rfl, H1, HB⟩
    obtain ⟨c0, c1⟩ := usOf_cells ((HO.out.next HB.out).get (.tail _ HU.out))
    have HB1 : Hid (Below wr.heap.size wr w1 ∧ w1.heap[wr.heap.size]? = some (.cells Z.toArray 36 (0, 0)) ∧ wr.heap.size < w1.heap.size) := Lib.hid ⟨HA.out.1.trans (HB.out.mono HA.out.1.size), (HB.out.block _ (by simp)).trans HA.out.2, Nat.lt_of_lt_of_le (by simp) HB.out.size⟩
    go_wp2_with fail
    refine (HT.out A1 cc1 w1 HB1.out.1 (Oct.Rd.of_own H1.out.1) H1.out.2 HLN.out).mono ?_
    rintro E w2 ⟨rfl, hb2⟩
    have HB2 : Hid (Below wr.heap.size wr w2 ∧ w2.heap[wr.heap.size]? = some (.cells Z.toArray 36 (0, 0))) := Lib.hid ⟨HB1.out.1.trans (hb2.mono HB1.out.1.size), (hb2.block _ HB1.out.2.2).trans HB1.out.2.1⟩
    have HR2 : Hid (w2.ownsRow (wr.heap.size + 1) 5 1 (.slice A1 rest.length cc1) rest.length (u8s rest)) := Lib.hid (own_below (own_base H1.out.1 (by simp)) hb2)
    clear hb2
    go_wp2_with (first | (refine wpList_store_all rfl 36 (.tmp 4) (.tmp 27) rfl wr.heap.size Z (u8s tg) 36 HB2.out.2 HLL.out rfl rfl HI.out HOT.out ?_; intro w3 G3))
    exact bodyPost_ret (ret_ttc (cs := u8s tg) rfl rfl rfl rfl (range_block G3.out.1 0 _ (fun j v hv => by rw [Nat.zero_add]; exact hv)) Tryd.underlying36 rfl HI.out) rfl ⟨A1, cc1, rfl, Lib.hid ⟨own_base (own_kept HR2.out fun g' hg' => G3.out.2.block g' (own_lt HR2.out g' hg').2 (fun e => by injection e with e; have := (own_lt HR2.out g' hg').1; omega)) (Nat.le_succ _), H1.out.2⟩, Lib.hid (below_gb HB2.out.1 G3.out.2 (Nat.le_refl _) HB2.out.1.size)⟩
end
end Go.Proofs.YtepjfkmbmcfnoaaDoor
