/-
  What is proved: what Start and mixed answer. Conditions as stated.
-/
import Derived.Test.YtflbhicjaaeegaaDoorA
import Derived.Laws.CopyOwn
import Derived.Lib.Hide
import Derived.IntWalk
import Derived.Deep.DeepMust
import Derived.Deep.QuietTactic
import Derived.BigQuiet
import Derived.Deep.WholeRow
import Derived.Deep.MidRow
namespace Go.Proofs.YtflbhicjaaeegaaDoor
open Go.RowKit

def u32s (l : List UInt32) : List Value := l.map u32

/-- The table holds K. -/
def KIs (w : World) : Prop := ∀ i : Nat, i < 64 → w.cell? ⟨0, i, none⟩ = some (.int .u32 ((K.getD i 0).toNat : Int))

theorem Tryd.size23 : (Tryd.prog.info? 23).map (·.size) = some 8 := by kernel_rfl
theorem Tryd.size24 : (Tryd.prog.info? 24).map (·.size) = some 64 := by kernel_rfl
theorem Tryd.size29 : (Tryd.prog.info? 29).map (·.size) = some 32 := by kernel_rfl
theorem Tryd.size42 : (Tryd.prog.info? 42).map (·.size) = some 64 := by kernel_rfl
theorem Tryd.size53 : (Tryd.prog.info? 53).map (·.size) = some 72 := by kernel_rfl
theorem Tryd.size52 : (Tryd.prog.info? 52).map (·.size) = some 74 := by kernel_rfl

/-- What a result in a cell reads as. -/
theorem ret_range {P : Program} {fn : Func} {p : Tmp} {ty : TypeId} (h : fn.results = #[.cell p ty]) {tmps : Array Value} {w : World} {g : Nat} {cs : List Value} {d : TypeDesc}
    (hp : tmps.getD p undef = .pointer (some ⟨g, 0, none⟩)) (hc : w.rangeAt g 0 cs) (hu : P.underlying ty = some d) (hd : d.isRow = true) (hi : (P.info? ty).map (·.size) = some cs.length) :
    (results fn tmps).run P w = .ok (.agg cs.toArray) w := by
  have hp' : tmps[p]?.getD undef = .pointer (some ⟨g, 0, none⟩) := by simpa using hp
  simp [results, h, hp', asAddr, run_loadVar_mid w g 0 ty cs d hc hu hd hi]

theorem below_setCells {B : Nat} {a : World} {b : Nat} (hb : B ≤ b) : ∀ (vs : List Value) (o : Nat) (w : World), Below B a w → Below B a (w.setCells b o vs)
  | [], _, _, h => h
  | v :: r, o, w, h => by
    rw [World.setCells]
    exact below_setCells hb r (o + 1) _ (h.setCell hb v)
theorem below_drewN {B : Nat} {a w : World} (h : Below B a w) (q : Nat) : Below B a (w.drewN q) := ⟨h.os, h.tape, h.output, h.size, h.block⟩

theorem range_new (w : World) (cs : List Value) (t : TypeId) : (w.alloc (.cells cs.toArray t)).rangeAt w.heap.size 0 cs := fun j v hv => by
  rw [Nat.zero_add, cell_of_row _ _ j cs.toArray t (0, 0) (heap_alloc_new w _)]
  simpa using hv
theorem there_new (w : World) (cs : Array Value) (t : TypeId) : (w.alloc (.cells cs t)).there w.heap.size 0 cs.size := fun j hj => by
  have h := heap_alloc_new w (.cells cs t)
  refine ⟨?_, ?_⟩
  · rw [cell_of_row _ _ (0 + j) cs t (0, 0) h]
    simp [hj]
  · simp only [World.frozen?, h]
    simp

theorem there_new2 (w : World) (o : Obj) (cs : Array Value) (t : TypeId) : ((w.alloc o).alloc (.cells cs t)).there (w.heap.size + 1) 0 cs.size := by
  have h := there_new (w.alloc o) cs t
  rwa [show (w.alloc o).heap.size = w.heap.size + 1 by simp] at h
theorem there_drewN {w : World} {b o n : Nat} (h : w.there b o n) (q : Nat) : (w.drewN q).there b o n := h

theorem u32s_one (l : List UInt32) : ∀ v ∈ u32s l, v.oneCell' = true := by
  intro v hv
  simp only [u32s, List.mem_map] at hv
  obtain ⟨x, _, rfl⟩ := hv
  rfl
theorem u32s_length (l : List UInt32) : (u32s l).length = l.length := by simp [u32s]

/-- An array of cells goes into the middle of a block. -/
theorem wpList_store_cells {P : Program} {ops : Array Oper} {rest : List Oper} {op : Oper} {a : Act} {w : World} {Q : Exit → Act → World → Prop} (hgd : op.guard = none) (ty : TypeId) (x y : Operand) (ho : op.op = .store ty x y)
    (b o : Nat) (cs : List Value) (hx : a.eval x = .pointer (some ⟨b, o, none⟩)) (hy : a.eval y = .agg cs.toArray)
    (ht : w.there b o cs.length) (hi : (P.info? ty).map (·.size) = some cs.length) (h1 : ∀ v ∈ cs, v.oneCell' = true)
    (h : wpList P ops Q rest (a.put op.dst undef) (w.setCells b o cs)) : wpList P ops Q (op :: rest) a w :=
  wpList_store_mid hgd ty x y ho b o cs.toArray hx hy (by simpa using ht) (by simpa using hi) (all_oneCell_toArray h1) (by simpa using h)

theorem start_any (w : World) : Calls Tryd.prog 24 #[] w fun e w' => e = .returned (.agg (u32s H0).toArray) ∧ Below w.heap.size w w' := by
  go_enter Tryd.func24, Tryd.ntmps24
  go_wp2
  exact bodyPost_ret (ret_range rfl rfl (range_new w (u32s H0) 23) Tryd.underlying23 rfl Tryd.size23) rfl ⟨rfl, (Below.refl _ _).alloc (Nat.le_refl _) _⟩
theorem startRef_any (w : World) : Calls Tryd.prog 25 #[] w fun e w' => e = .returned (.agg (u32s H0).toArray) ∧ Below w.heap.size w w' := by
  go_enter Tryd.func25, Tryd.ntmps25
  go_wp2
  exact bodyPost_ret (ret_range rfl rfl (range_new w (u32s H0) 23) Tryd.underlying23 rfl Tryd.size23) rfl ⟨rfl, (Below.refl _ _).alloc (Nat.le_refl _) _⟩

theorem b_not' (a : UInt32) : bits .xor .u32 (if IntKind.u32.signed = true then -1 else IntKind.u32.max) (a.toNat : Int) = ((~~~a).toNat : Int) := b_not a
theorem t_eq (s : S8) (k w : UInt32) :
    ((s.h.toNat : Int) + bits .xor .u32 (bits .xor .u32 ((rotr s.e 6).toNat : Int) ((rotr s.e 11).toNat : Int)) ((rotr s.e 25).toNat : Int) +
      bits .xor .u32 (bits .and .u32 (s.e.toNat : Int) (s.f.toNat : Int)) (bits .and .u32 (bits .xor .u32 (if IntKind.u32.signed = true then -1 else IntKind.u32.max) (s.e.toNat : Int)) (s.g.toNat : Int)) + (k.toNat : Int) + (w.toNat : Int)) % 4294967296 = ((tOf s k w).toNat : Int) := by
  simp only [b_xor, b_and, b_not', tOf, UInt32.toNat_add]
  omega
theorem u_eq (s : S8) :
    ((bits .xor .u32 (bits .xor .u32 ((rotr s.a 2).toNat : Int) ((rotr s.a 13).toNat : Int)) ((rotr s.a 22).toNat : Int)) +
      bits .xor .u32 (bits .xor .u32 (bits .and .u32 (s.a.toNat : Int) (s.b.toNat : Int)) (bits .and .u32 (s.a.toNat : Int) (s.c.toNat : Int))) (bits .and .u32 (s.b.toNat : Int) (s.c.toNat : Int))) % 4294967296 = ((uOf s).toNat : Int) := by
  simp only [b_xor, b_and, b_add, uOf]

set_option maxHeartbeats 2000000 in
set_option maxRecDepth 100000 in
theorem mixed_any (a b c d e f g h : UInt32) (ws : List UInt32) (gw : Nat) (w : World) (hk : KIs w) (h0 : 0 < w.heap.size) (hg : gw < w.heap.size)
    (hw : ∀ i, i < 64 → w.cell? ⟨gw, i, none⟩ = some (u32 (ws.getD i 0))) :
    Calls Tryd.prog 20 #[.agg #[u32 a, u32 b, u32 c, u32 d, u32 e, u32 f, u32 g, u32 h], .pointer (some ⟨gw, 0, none⟩)] w fun E w' => E = .returned (.agg (u32s (rnds K ws ⟨a, b, c, d, e, f, g, h⟩ 64).list).toArray) ∧ Below w.heap.size w w' := by
  have HK := Lib.hid hk
  have HW := Lib.hid hw
  clear hk hw
  unfold u32
  go_enter Tryd.func20, Tryd.ntmps20
  go_wp2
  go_quiet (fail)
  go_wp2
  go_loopw [5, 6, 7, 8, 9, 10, 11, 12, 32] (fun va vb vc vd ve vf vg vh vi wr => ∃ k : Nat, k ≤ 64 ∧ vi = .int .i64 k ∧
      va = .int .u32 ((rnds K ws ⟨a, b, c, d, e, f, g, h⟩ k).a.toNat : Int) ∧ vb = .int .u32 ((rnds K ws ⟨a, b, c, d, e, f, g, h⟩ k).b.toNat : Int) ∧
      vc = .int .u32 ((rnds K ws ⟨a, b, c, d, e, f, g, h⟩ k).c.toNat : Int) ∧ vd = .int .u32 ((rnds K ws ⟨a, b, c, d, e, f, g, h⟩ k).d.toNat : Int) ∧
      ve = .int .u32 ((rnds K ws ⟨a, b, c, d, e, f, g, h⟩ k).e.toNat : Int) ∧ vf = .int .u32 ((rnds K ws ⟨a, b, c, d, e, f, g, h⟩ k).f.toNat : Int) ∧
      vg = .int .u32 ((rnds K ws ⟨a, b, c, d, e, f, g, h⟩ k).g.toNat : Int) ∧ vh = .int .u32 ((rnds K ws ⟨a, b, c, d, e, f, g, h⟩ k).h.toNat : Int) ∧
      Below w.heap.size w wr ∧ Hid (wr.there (w.heap.size + 1) 0 8))
    (fun _ _ _ _ _ _ _ _ vi _ => 64 - (intOf vi).toNat)
  case atStart => exact ⟨0, by omega, rfl, rfl, rfl, rfl, rfl, rfl, rfl, rfl, rfl, below_drewN (((Below.refl _ _).alloc (Nat.le_refl _) _).alloc (by simp) _) _, Lib.hid (there_drewN (there_new2 w _ _ _) _)⟩
  case round =>
    obtain ⟨k, hk, rfl, rfl, rfl, rfl, rfl, rfl, rfl, rfl, rfl, hb, HT⟩ := hrel
    by_cases hk8 : k < 64
    · obtain ⟨st, hst⟩ : ∃ st, st = rnds K ws ⟨a, b, c, d, e, f, g, h⟩ k := ⟨_, rfl⟩
      have hwk : wr.cell? ⟨gw, k, none⟩ = some (.int .u32 ((ws.getD k 0).toNat : Int)) := (hb.cell (p := ⟨gw, k, none⟩) hg).trans (HW.out k hk8)
      have hkk : wr.cell? ⟨0, k, none⟩ = some (.int .u32 ((K.getD k 0).toNat : Int)) := (hb.cell (p := ⟨0, k, none⟩) h0).trans (HK.out k hk8)
      have hn : rnds K ws ⟨a, b, c, d, e, f, g, h⟩ (k + 1) = rnd (K.getD k 0) (ws.getD k 0) st := by rw [hst]; rfl
      rw [← hst]
      generalize ws.getD k 0 = wk at hwk hn
      generalize K.getD k 0 = kk at hkk hn
      have HN := Lib.hid hn
      clear hn hst
      go_wp2
      go_quiet (first | (go_at_call 28; exact (right_all _ _ _ (by decide)).mono fun _ _ h => ⟨h.1, _, h.2.symm⟩))
      go_wp2_with (first | (go_at_call 28; refine (right_all _ _ _ (by decide)).mono ?_; rintro E w' ⟨rfl, rfl⟩))
      go_roundw
      case measure => simp [intOf]; omega
      case rel =>
        simp only [rotI2, rotI6, rotI11, rotI13, rotI22, rotI25, t_eq, u_eq]
        refine ⟨k + 1, by omega, by go_num, ?_, ?_, ?_, ?_, ?_, ?_, ?_, ?_, below_drewN hb _, Lib.hid (there_drewN HT.out _)⟩ <;> rw [HN.out] <;> first | rfl | (rw [b_add]; rfl)
    · obtain rfl : k = 64 := by omega
      obtain ⟨st, hst⟩ : ∃ st, st = rnds K ws ⟨a, b, c, d, e, f, g, h⟩ 64 := ⟨_, rfl⟩
      rw [← hst]
      have HS := Lib.hid hst
      clear hst
      go_wp2_with (first
        | (refine wpList_store_cells rfl 23 (.tmp 4) (.tmp 105) rfl (w.heap.size + 1) 0 (u32s st.list) rfl rfl HT.out Tryd.size23 (u32s_one _) ?_))
      exact bodyPost_ret (ret_range (cs := u32s st.list) rfl rfl (World.rangeAt_setCells_same _ _ _ (u32s st.list) HT.out) Tryd.underlying23 rfl Tryd.size23) rfl ⟨by rw [HS.out], below_setCells (Nat.le_succ _) _ _ _ hb⟩
end Go.Proofs.YtflbhicjaaeegaaDoor
