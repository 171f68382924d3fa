/-
  What is proved: what tagged, ended, sound, refuses and seal of a counter answer. Conditions as stated.
-/
import Derived.Test.YtepjfkmbmcfnoaaDoorGa
import Derived.Test.YtepjfkmbmcfnoaaDoorK11
namespace Go.Proofs.YtepjfkmbmcfnoaaDoor
open Go.RowKit
set_option maxRecDepth 100000

theorem ret_ttc {P : Program} {fn : Func} {p q r : Tmp} {ty : TypeId} (h : fn.results = #[.tmp p, .tmp q, .cell r ty]) {tmps : Array Value} {w : World} {g : Nat} {cs : List Value} {d : TypeDesc} {u v : Value}
    (hp : tmps.getD p undef = u) (hq : tmps.getD q undef = v) (hr : tmps.getD r undef = .pointer (some ⟨g, 0, none⟩)) (hc : w.rangeAt g 0 cs) (hu : P.underlying ty = some d) (hd : d.isRow = true) (hi : (P.info? ty).map (·.size) = some cs.length) :
    (results fn tmps).run P w = .ok (.tuple #[u, v, .agg cs.toArray]) w := by
  have hp' : tmps[p]?.getD undef = u := by simpa using hp
  have hq' : tmps[q]?.getD undef = v := by simpa using hq
  have hr' : tmps[r]?.getD undef = .pointer (some ⟨g, 0, none⟩) := by simpa using hr
  simp [results, h, hp', hq', hr', asAddr, run_loadVar_mid w g 0 ty cs d hc hu hd hi]
theorem ret_tct {P : Program} {fn : Func} {p q r : Tmp} {ty : TypeId} (h : fn.results = #[.tmp p, .cell r ty, .tmp q]) {tmps : Array Value} {w : World} {g : Nat} {cs : List Value} {d : TypeDesc} {u v : Value}
    (hp : tmps.getD p undef = u) (hq : tmps.getD q undef = v) (hr : tmps.getD r undef = .pointer (some ⟨g, 0, none⟩)) (hc : w.rangeAt g 0 cs) (hu : P.underlying ty = some d) (hd : d.isRow = true) (hi : (P.info? ty).map (·.size) = some cs.length) :
    (results fn tmps).run P w = .ok (.tuple #[u, .agg cs.toArray, v]) w := by
  have hp' : tmps[p]?.getD undef = u := by simpa using hp
  have hq' : tmps[q]?.getD undef = v := by simpa using hq
  have hr' : tmps[r]?.getD undef = .pointer (some ⟨g, 0, none⟩) := by simpa using hr
  simp [results, h, hp', hq', hr', asAddr, run_loadVar_mid w g 0 ty cs d hc hu hd hi]

/-- A tag, as values. -/
def tagV (t : List UInt8) : Value := .agg (u8s t).toArray
def noTag : List UInt8 := List.replicate 32 0

theorem zero_tag (w : World) : (zeroValue 36).run Tryd.prog w = .ok (.agg (u8s noTag).toArray) w := by kernel_rfl
theorem build_tag (w : World) : (Instr.build 36 #[]).run Tryd.prog w = .ok (.agg (u8s noTag).toArray) w := by kernel_rfl
theorem noTag_length : noTag.length = 32 := rfl

set_option maxHeartbeats 400000 in
theorem tagged_by (p : Value) (i : Int) (num : Nat) (A : Option Addr) (m c : Nat) (w : World) (out : List UInt8) (ho : out.length = 32)
    (T : ∀ W : World, Below w.heap.size w W → Calls Tryd.prog 33 #[.int .i64 i, .int .u64 num, .slice A m c] W fun E w' => E = .returned (tagV out) ∧ Below W.heap.size W w') :
    Calls Tryd.prog 30 #[.agg #[p, .int .i64 i], .int .u64 num, .slice A m c] w fun E w' => E = .returned (tagV out) ∧ Below w.heap.size w w' := by
  obtain ⟨Z, hZ⟩ : ∃ Z, Z = u8s noTag := ⟨_, rfl⟩
  have hz : ∀ w, (zeroValue 36).run Tryd.prog w = .ok (.agg Z.toArray) w := by rw [hZ]; exact zero_tag
  have HZL : Hid (Z.length = 32) := Lib.hid (by rw [hZ, u8s_length]; rfl)
  have HT := Lib.hid T
  have HL : Hid ((u8s out).length = 32) := Lib.hid (by rw [u8s_length, ho])
  have HI : Hid ((Tryd.prog.info? 36).map (·.size) = some (u8s out).length) := Lib.hid (by rw [HL.out]; exact Sh.Tryd.size36)
  have HO : Hid (∀ v ∈ u8s out, v.oneCell' = true) := Lib.hid (u8s_one _)
  have HA : Hid (Below w.heap.size w ((w.alloc (.cells #[p, .int .i64 i] 71)).alloc (.cells Z.toArray 36)) ∧ ((w.alloc (.cells #[p, .int .i64 i] 71)).alloc (.cells Z.toArray 36)).heap[w.heap.size + 1]? = some (.cells Z.toArray 36 (0, 0))) := Lib.hid ⟨((Below.refl _ _).alloc (Nat.le_refl _) _).alloc (by simp) _, by
    have := row_new (w.alloc (.cells #[p, .int .i64 i] 71)) Z 36
    rwa [show (w.alloc (.cells #[p, .int .i64 i] 71)).heap.size = w.heap.size + 1 by simp] at this⟩
  unfold tagV at *
  generalize u8s out = cs at *
  clear T ho hZ
  go_enter Tryd.func30, Tryd.ntmps30
  go_wp2_with fail
  refine (HT.out _ HA.out.1).mono ?_
  rintro E w1 ⟨rfl, hb1⟩
  have HB1 : Hid (Below w.heap.size w w1 ∧ w1.heap[w.heap.size + 1]? = some (.cells Z.toArray 36 (0, 0))) := Lib.hid ⟨HA.out.1.trans (hb1.mono HA.out.1.size), (hb1.block _ (by simp)).trans HA.out.2⟩
  clear hb1 HA HT
  go_wp2_with (first | (refine wpList_store_all rfl 36 (.tmp 6) (.tmp 11) rfl (w.heap.size + 1) Z cs 36 HB1.out.2 (by rw [HL.out, HZL.out]) rfl rfl HI.out HO.out ?_; intro w2 G2))
  exact bodyPost_ret (ret_range (cs := cs) rfl rfl (range_block G2.out.1 0 _ (fun j v hv => by rw [Nat.zero_add]; exact hv)) Tryd.underlying36 rfl HI.out) rfl ⟨rfl, below_gb HB1.out.1 G2.out.2 (Nat.le_succ _) HB1.out.1.size⟩

section
variable {w wr : World} {d T : Nat} {s : Dk} {L : List (Nat × Obj)} {x : Int} {g : Nat} {bs : List UInt8} {slot : Int}
theorem ended_any (h : OpAt w d T s x L g bs slot wr) (i : Int) :
    Calls Tryd.prog 58 #[.agg #[.pointer (some ⟨g, 0, none⟩), .int .i64 i]] wr fun E w' => E = .returned (.bool ((sealN bs : Int) == 65536)) ∧ Hid (Below wr.heap.size wr w') := by
  have HS := Lib.hid (sealed_any (h.lit (.cells #[.pointer (some ⟨g, 0, none⟩), .int .i64 i] 71 (0, 0))) i)
  have HB0 : Hid (Below wr.heap.size wr (wr.alloc (.cells #[.pointer (some ⟨g, 0, none⟩), .int .i64 i] 71 (0, 0)))) := Lib.hid ((Below.refl _ _).alloc (Nat.le_refl _) _)
  clear h
  go_enter Tryd.func58, Tryd.ntmps58
  go_wp2_with fail
  refine HS.out.mono ?_
  rintro E w1 ⟨A, c, rfl, H1, HB⟩
  go_wp2_with fail
  go_ret
  exact ⟨rfl, Lib.hid (HB0.out.trans (HB.out.mono HB0.out.size))⟩

/-- Is it what a counter seals, or nothing? -/
def soundB (bs : List UInt8) : Bool := bs.length == 0 || mayN (sealN bs) (sealB bs).length
theorem sound_any (h : OpAt w d T s x L g bs slot wr) (i : Int) :
    Calls Tryd.prog 28 #[.agg #[.pointer (some ⟨g, 0, none⟩), .int .i64 i]] wr fun E w' => E = .returned (.bool (soundB bs)) ∧ Hid (Below wr.heap.size wr w') := by
  have h1 := h.lit (.cells #[.pointer (some ⟨g, 0, none⟩), .int .i64 i] 71 (0, 0))
  have HC : Hid ((wr.alloc (.cells #[.pointer (some ⟨g, 0, none⟩), .int .i64 i] 71 (0, 0))).heap[wr.heap.size]? = some (.cells #[.pointer (some ⟨g, 0, none⟩), .int .i64 i] 71 (0, 0))) := Lib.hid (heap_alloc_new _ _)
  have H1 := Lib.hid h1
  have HG := Lib.hid (get_own h1)
  have HB0 : Hid (Below wr.heap.size wr (wr.alloc (.cells #[.pointer (some ⟨g, 0, none⟩), .int .i64 i] 71 (0, 0)))) := Lib.hid ((Below.refl _ _).alloc (Nat.le_refl _) _)
  have hs : soundB bs = (bs.length == 0 || mayN (sealN bs) (sealB bs).length) := rfl
  clear h h1
  by_cases h0 : bs.length = 0
  · rw [hs, show (bs.length == 0) = true by simpa using h0, Bool.true_or]
    obtain ⟨n, hn⟩ : ∃ n, n = bs.length := ⟨_, rfl⟩
    rw [← hn] at HG h0
    subst h0
    clear hs hn
    go_enter Tryd.func28, Tryd.ntmps28
    go_wp2_with fail
    refine HG.out.mono ?_
    rintro E w1 ⟨A, c, rfl, H2, HB⟩
    go_wp2_with fail
    go_ret
    exact ⟨rfl, Lib.hid (HB0.out.trans (HB.out.mono HB0.out.size))⟩
  · rw [hs, show (bs.length == 0) = false by simpa using h0, Bool.false_or]
    have hm := fun A c w => mayBe_any (sealN bs) (sealB bs).length c A w
    have HM := Lib.hid hm
    have HSE := Lib.hid (fun W (hb : Below (wr.heap.size + 1) (wr.alloc (.cells #[.pointer (some ⟨g, 0, none⟩), .int .i64 i] 71 (0, 0))) W) => sealed_any (H1.out.next (by rw [show (wr.alloc (.cells #[.pointer (some ⟨g, 0, none⟩), .int .i64 i] 71 (0, 0))).heap.size = wr.heap.size + 1 by simp]; exact hb)) i)
    obtain ⟨n, hn⟩ : ∃ n, n = bs.length := ⟨_, rfl⟩
    rw [← hn] at HG h0
    have hz : ((n : Int) == 0) = false := by simpa using h0
    generalize mayN (sealN bs) (sealB bs).length = ans at HM ⊢
    generalize sealN bs = num at HM HSE
    generalize (sealB bs).length = len at HM HSE
    clear hs hm hn
    go_enter Tryd.func28, Tryd.ntmps28
    go_wp2_with fail
    refine HG.out.mono ?_
    rintro E w1 ⟨A, c, rfl, H2, HB⟩
    have hq := (HB.out.block wr.heap.size (by simp)).trans HC.out
    have c0 : w1.cell? ⟨wr.heap.size, 0, none⟩ = some (.pointer (some ⟨g, 0, none⟩)) := block_cell (C := [.pointer (some ⟨g, 0, none⟩), .int .i64 i]) hq 0 _ rfl
    have c1 : w1.cell? ⟨wr.heap.size, 1, none⟩ = some (.int .i64 i) := block_cell (C := [.pointer (some ⟨g, 0, none⟩), .int .i64 i]) hq 1 _ rfl
    have HB1 : Hid (Below (wr.heap.size + 1) (wr.alloc (.cells #[.pointer (some ⟨g, 0, none⟩), .int .i64 i] 71 (0, 0))) w1) := Lib.hid (HB.out.mono (by simp))
    clear hq
    go_wp2_with fail
    refine (HSE.out _ HB1.out).mono ?_
    rintro E w2 ⟨A2, c2, rfl, H3, HB2⟩
    go_wp2_with fail
    refine (HM.out _ _ _).mono ?_
    rintro E w3 ⟨rfl, rfl⟩
    go_wp2_with fail
    go_ret
    exact ⟨rfl, Lib.hid ((HB0.out.trans (HB.out.mono HB0.out.size)).trans (HB2.out.mono (Nat.le_trans HB0.out.size HB.out.size)))⟩
end
end Go.Proofs.YtepjfkmbmcfnoaaDoor
