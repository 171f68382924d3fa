/-
  What is proved: what the record that comes next reads as. Conditions as stated.
-/
import Derived.Test.YtfegffdhlkhjbaaBd
namespace Go.Proofs.Ytfegffdhlkhjbaa
open Go.RowKit
set_option maxRecDepth 100000

theorem Try.stood94 : Try.prog.stoodInHeld 94 = false := by kernel_rfl
theorem part_int {P : Program} {e : TypeId} {kd : IntKind} (he : P.underlying e = some (.int kd)) {xs : Array Value} {i : Nat} {v : Value} (hv : xs[i]? = some v) (w : World) : (part e xs i).run P w = .ok v w := by
  have hagg : (isAgg e).run P w = .ok false w := by
    unfold isAgg
    rw [Sem.run_bind, run_underlying he w]
    rfl
  simp [part, hagg, hv]
theorem neq_head (a b : Nat × Nat × Nat × Nat) (W : World) : (binOp BinOp.neq 94 (.agg (headV a).toArray) (.agg (headV b).toArray)).run Try.prog W = .ok (.bool (decide (a ≠ b))) W := by
  obtain ⟨a1, a2, a3, a4⟩ := a
  obtain ⟨b1, b2, b3, b4⟩ := b
  have p := fun (e : TypeId) (kd : IntKind) (he : Try.prog.underlying e = some (.int kd)) (c : Nat × Nat × Nat × Nat) (i : Nat) (v : Value) (hv : ((headV c).toArray)[i]? = some v) => part_int he hv W
  have p1 := fun c : Nat × Nat × Nat × Nat => p 61 .u64 Try.underlying61 c 0 (.int .u64 (c.1 : Int)) rfl
  have p2 := fun c : Nat × Nat × Nat × Nat => p 61 .u64 Try.underlying61 c 1 (.int .u64 (c.2.1 : Int)) rfl
  have p3 := fun c : Nat × Nat × Nat × Nat => p 92 .u16 Try.underlying92 c 2 (.int .u16 (c.2.2.1 : Int)) rfl
  have p4 := fun c : Nat × Nat × Nat × Nat => p 92 .u16 Try.underlying92 c 3 (.int .u16 (c.2.2.2 : Int)) rfl
  have e1 := fun x y : Int => run_equalIn_int W 9998 61 .u64 .u64 x y Try.underlying61
  have e2 := fun x y : Int => run_equalIn_int W 9998 92 .u16 .u16 x y Try.underlying92
  clear p
  rw [run_neq_struct, show 10000 = 9999 + 1 from rfl, run_equalIn_struct W 9999 94 _ _ (by kernel_rfl) Try.stood94]
  unfold Program.fieldsOf
  rw [Try.underlying94]
  generalize hA : (headV (a1, a2, a3, a4)).toArray = A
  generalize hB : (headV (b1, b2, b3, b4)).toArray = B
  have a1' := p1 (a1, a2, a3, a4)
  have a2' := p2 (a1, a2, a3, a4)
  have a3' := p3 (a1, a2, a3, a4)
  have a4' := p4 (a1, a2, a3, a4)
  have b1' := p1 (b1, b2, b3, b4)
  have b2' := p2 (b1, b2, b3, b4)
  have b3' := p3 (b1, b2, b3, b4)
  have b4' := p4 (b1, b2, b3, b4)
  rw [hA] at a1' a2' a3' a4'
  rw [hB] at b1' b2' b3' b4'
  simp only at a1' a2' a3' a4' b1' b2' b3' b4'
  have n1 : ("life" : String) ≠ "_" := by decide
  have n2 : ("number" : String) ≠ "_" := by decide
  have n3 : ("page" : String) ≠ "_" := by decide
  have n4 : ("pages" : String) ≠ "_" := by decide
  simp only [Op.eqFields, n1, n2, n3, n4, ne_eq, not_false_eq_true, if_true, Sem.run_bind, a1', b1', Result.andThen_ok, e1]
  by_cases h1 : a1 = b1
  · subst h1
    simp only [BEq.rfl, Bool.not_true, Bool.false_eq_true, if_false, Sem.run_bind, a2', b2', Result.andThen_ok, e1]
    by_cases h2 : a2 = b2
    · subst h2
      simp only [BEq.rfl, Bool.not_true, Bool.false_eq_true, if_false, Sem.run_bind, a3', b3', Result.andThen_ok, e2]
      by_cases h3 : a3 = b3
      · subst h3
        simp only [BEq.rfl, Bool.not_true, Bool.false_eq_true, if_false, Sem.run_bind, a4', b4', Result.andThen_ok, e2]
        by_cases h4 : a4 = b4
        · subst h4
          simp
        · simp [h4]; omega
      · simp [h3]; omega
    · simp [h2]; omega
  · simp [h1]; omega

theorem recAt_no {s : Dk} {y left : Int} {l n p k : Nat} (hk : k ≤ p) (h : recGo s y l n p k = none) : recAt s y left l n p = none := by
  unfold recAt
  split
  · rfl
  · have := recGo_none h (p - k)
    rw [show k + (p - k) = p by omega] at this
    rw [this]

set_option maxHeartbeats 8000000 in
theorem record_b {w wo : World} {d T g life c : Nat} {s : Dk} {L : List (Nat × Obj)} {next stop : Int} {failed : Bool} (h : Dat w d T s ((g, bookOf d life (c : Int) next stop failed) :: L) wo) (l p : Nat) (hl : 0 < l) (hpp : p < 65536) (hn : 0 ≤ next ∧ next ≤ 32768) (hst : 0 ≤ stop ∧ stop ≤ 32768) (hc : c + 1 < 1000000000) :
    Calls Try.prog 50 #[.pointer (some ⟨g, 0, none⟩), .int .u64 (l : Int), .int .u16 (p : Int)] wo fun E w' => ∃ A m cc, E = .returned (.tuple #[.slice A m cc, .bool (recAt s next (stop - next) l (c + 1) p).isSome]) ∧ Below wo.heap.size wo w' ∧ Oct.Sl A m cc ∧
      w'.ownsRow wo.heap.size 5 1 (.slice A m cc) m (u8s ((recAt s next (stop - next) l (c + 1) p).getD [])) := by
  have HD := Lib.hid h
  have HNIL : Hid (∀ w', Oct.Sl none 0 0 ∧ World.ownsRow w' wo.heap.size 5 1 (.slice none 0 0) 0 (u8s [])) := Lib.hid fun w' => ⟨sl_nil, World.ownsRow_nil _ _ _ _⟩
  have HLF := Lib.hid (left_b (h.get (q := g) (.head _)) hn hst)
  have HRL : Hid (∀ y, (s.read y).1.length = 128) := Lib.hid fun y => h.read_len y
  clear h
  by_cases hp : stop - next < (p : Int)
  · have e : recAt s next (stop - next) l (c + 1) p = none := by unfold recAt; rw [if_pos hp]
    rw [e]
    clear e
    go_enter Try.func50, Try.ntmps50
    go_wp2_with (first | (go_at_call 31; refine HLF.out.mono ?_; rintro E w1 ⟨rfl, q, rfl⟩))
    go_ret2
    exact ⟨none, 0, 0, rfl, ⟨rfl, rfl, rfl, Nat.le_refl _, fun _ _ => rfl⟩, HNIL.out _⟩
  · have HRA : Hid (recAt s next (stop - next) l (c + 1) p = match recGo s next l (c + 1) p p with | none => none | some a => contentB a) := Lib.hid (by rw [recAt, if_neg hp]; rfl)
    have HNO : Hid (∀ k, k ≤ p → recGo s next l (c + 1) p k = none → recAt s next (stop - next) l (c + 1) p = none) := Lib.hid fun k hk h => recAt_no hk h
    obtain ⟨ra, hra⟩ : ∃ ra, ra = recAt s next (stop - next) l (c + 1) p := ⟨_, rfl⟩
    rw [← hra] at HRA HNO ⊢
    clear hra
    have hp2 : p ≤ 32768 := by omega
    go_enter Try.func50, Try.ntmps50
    go_wp2_with (first | (go_at_call 31; refine HLF.out.mono ?_; rintro E w1 ⟨rfl, q, rfl⟩))
    have B1 : Hid (Below wo.heap.size wo (wo.drewN q)) := Lib.hid ⟨rfl, rfl, rfl, Nat.le_refl _, fun _ _ => rfl⟩
    have D1 := Lib.hid (HD.out.next B1.out)
    clear HLF
    generalize wo.drewN q = w1 at B1 D1 ⊢
    refine (first_b c (D1.out.get (q := g) (.head _)) l p hc).mono ?_
    rintro E w2 ⟨rfl, hb2⟩
    have B2 : Hid (Below wo.heap.size wo w2) := Lib.hid (B1.out.trans (hb2.mono B1.out.size))
    clear hb2 B1 D1
    have hwp : RowKit.wrap64 (p : Int) = (p : Int) := by unfold RowKit.wrap64; omega
    go_wp2_with (first
      | (refine wpList_store_all rfl 94 (.tmp 9) (.tmp 21) rfl w2.heap.size (headV (0, 0, 0, 0)) (headV (l, c + 1, 0, p)) 94 (row_new w2 (headV (0, 0, 0, 0)) 94) rfl rfl rfl Try.size94 (headV_one _) ?_; intro w3 G3)
      | fail)
    have B3 : Hid (Below wo.heap.size wo w3) := Lib.hid ((B2.out.alloc B2.out.size _).grown G3.out.2 (by simp; exact Nat.le_succ_of_le B2.out.size) (fun k e => by injection e with e; subst e; exact B2.out.size))
    have Q3 : Hid (w3.heap[w2.heap.size]? = some (.cells (headV (l, c + 1, 0, p)).toArray 94 (0, 0))) := Lib.hid G3.out.1
    have HQ : Hid (wo.heap.size ≤ w2.heap.size) := Lib.hid B2.out.size
    clear G3 B2
    generalize w2.heap.size = q9 at Q3 HQ ⊢
    go_loopw [8, 24] (fun v8 v24 wr => ∃ k : Nat, k ≤ p ∧ v24 = .int .i64 (k : Int) ∧ ∃ a : List UInt8, Hid (recGo s next l (c + 1) p k = some a) ∧ ∃ A m cc, v8 = .slice A m cc ∧ Hid (m = 108 * k ∧ Oct.Sl A m cc ∧ wr.ownsRow (q9 + 1) 5 1 (.slice A m cc) m (u8s a)) ∧ Hid (Below wo.heap.size wo wr) ∧ Hid (wr.heap[q9]? = some (.cells (headV (l, c + 1, k, p)).toArray 94 (0, 0)))) (fun _ v24 _ => p - (intOf v24).toNat)
    case atStart => exact ⟨0, by omega, rfl, [], Lib.hid rfl, none, 0, 0, rfl, Lib.hid ⟨rfl, sl_nil, World.ownsRow_nil _ _ _ _⟩, B3, Q3⟩
    case round =>
      clear B3 Q3
      obtain ⟨k, hk, rfl, a, HA, A, m, cc, rfl, HM, HB, HQ9⟩ := hrel
      by_cases hkk : k < p
      · have hmk := HM.out.1
        subst hmk
        obtain ⟨hh, hhh⟩ : ∃ hh, hh = headAt s (next + k) := ⟨_, rfl⟩
        obtain ⟨pt, hpt⟩ : ∃ pt, pt = partAt s (next + k) := ⟨_, rfl⟩
        have HNX : Hid (recGo s next l (c + 1) p (k + 1) = if hh = (l, c + 1, k, p) then some (a ++ pt) else none) := Lib.hid (by rw [recGo, HA.out, hhh, hpt])
        have hpb := page_b (HD.out.next HB.out) (next + k) (i64_of (by omega))
        rw [← hhh, ← hpt] at hpb
        have HPB := Lib.hid hpb
        obtain ⟨-, -, -, k3, -, -⟩ := bookOf_cells ((HD.out.next HB.out).get (q := g) (.head _))
        have HLT : Hid (q9 < wr.heap.size) := Lib.hid (Array.getElem?_eq_some_iff.1 HQ9.out).1
        have HPL : Hid (hh = (l, c + 1, k, p) → pt.length = 108) := Lib.hid (fun e => by
          rw [hpt]
          unfold partAt
          rw [hhh] at e
          unfold headAt at e
          split
          · rename_i he
            rw [if_pos he] at e
            injection e with e
            omega
          · rw [List.length_drop, HRL.out])
        clear hhh hpt HA hpb
        go_wp2_with fail
        refine HPB.out.mono ?_
        rintro E w4 ⟨A4, m4, c4, rfl, hb4, hs4, ho4⟩
        have B4 := Lib.hid hb4
        have O4 := Lib.hid ho4
        have S4 := Lib.hid hs4
        clear hb4 hs4 ho4 HPB k3
        have B5 : Hid (Below wr.heap.size wr (w4.alloc (.cells (headV (0, 0, 0, 0)).toArray 94))) := Lib.hid (B4.out.alloc B4.out.size _)
        by_cases he : hh = (l, c + 1, k, p)
        · subst he
          have hne := neq_head (l, c + 1, k, p) (l, c + 1, k, p)
          rw [show decide ((l, c + 1, k, p) ≠ (l, c + 1, k, p)) = false by simp] at hne
          have HNX2 : Hid (recGo s next l (c + 1) p (k + 1) = some (a ++ pt)) := Lib.hid (by rw [HNX.out, if_pos rfl])
          obtain rfl : m4 = 108 := by have := (Oct.Rd.of_own O4.out).1; rw [← this]; exact HPL.out rfl
          have HBX : Hid (∀ W, (w4.alloc (.cells (headV (0, 0, 0, 0)).toArray 94)).grownBy W (some w4.heap.size) → Below w4.heap.size w4 W) := Lib.hid fun W hg => ((Below.refl _ _).alloc (Nat.le_refl _) _).grown hg (by simp) (fun k e => by injection e with e; omega)
          have HOX : Hid (∀ W, Below w4.heap.size w4 W → W.ownsRow (q9 + 1) 5 1 (.slice A (108 * k) cc) (108 * k) (u8s a) ∧ Oct.Rd W A4 108 pt ∧ q9 + 1 ≤ W.heap.size ∧ W.heap[q9]? = some (.cells (headV (l, c + 1, k, p)).toArray 94 (0, 0)) ∧ Below wo.heap.size wo W) := Lib.hid fun W hb => by
            have h1 := B4.out.trans (hb.mono B4.out.size)
            refine ⟨own_below HM.out.2.2 h1, (Oct.Rd.of_own O4.out).below hb, ?_, (h1.block _ HLT.out).trans HQ9.out, HB.out.trans (h1.mono HB.out.size)⟩
            have := HLT.out
            have := h1.size
            omega
          clear HM HB HQ9 HNX HPL B4 O4
          go_wp2_with (first
            | (refine wpList_store_all rfl 94 (.tmp 11) (.tmp 36) rfl w4.heap.size (headV (0, 0, 0, 0)) (headV (l, c + 1, k, p)) 94 (row_new w4 (headV (0, 0, 0, 0)) 94) rfl rfl rfl Try.size94 (headV_one _) ?_; intro w5 G5)
            | (refine wpList_load_mid rfl 94 (.tmp 11) rfl w4.heap.size 0 rfl (headV (l, c + 1, k, p)) _ (range_block G5.out.1 0 _ (fun j v hv => by rw [Nat.zero_add]; exact hv)) Try.underlying94 rfl Try.size94 ?_)
            | (refine wpList_load_mid rfl 94 (.tmp 9) rfl q9 0 rfl (headV (l, c + 1, k, p)) _ (range_block (HOX.out _ (HBX.out _ G5.out.2)).2.2.2.1 0 _ (fun j v hv => by rw [Nat.zero_add]; exact hv)) Try.underlying94 rfl Try.size94 ?_)
            | (at_builtin; go_must (refine wpList_append_oct rfl (.tmp 41) (.tmp 42) rfl (q9 + 1) (108 * k) 108 c4 (.slice A (108 * k) cc) A4 a pt rfl rfl (HOX.out _ (HBX.out _ G5.out.2)).1 (HOX.out _ (HBX.out _ G5.out.2)).2.1 S4.out (HOX.out _ (HBX.out _ G5.out.2)).2.2.1 (by omega) ?_); intro A7 c7 w7 h7 hg7; have Q7 : Hid (w7.heap[q9]? = some (.cells (headV (l, c + 1, k, p)).toArray 94 (0, 0))) := Lib.hid ((hg7.out.block _ (by have := (HOX.out _ (HBX.out _ G5.out.2)).2.2.1; omega) (fun e => by have := (own_lt (HOX.out _ (HBX.out _ G5.out.2)).1 _ e.symm).1; omega)).trans (HOX.out _ (HBX.out _ G5.out.2)).2.2.2.1); have k7 : w7.cell? ⟨q9, 2, none⟩ = some (.int .u16 (k : Int)) := block_cell Q7.out 2 _ rfl; have f7 := free_block Q7.out 2)
            | fail)
          have B7 : Hid (Below wo.heap.size wo w7) := Lib.hid ((HOX.out _ (HBX.out _ G5.out.2)).2.2.2.2.grown hg7.out (by have := (HOX.out _ (HBX.out _ G5.out.2)).2.2.2.2.size; exact this) (fun g' e => by have := (own_lt (HOX.out _ (HBX.out _ G5.out.2)).1 g' e).1; have := HQ.out; omega))
          have hset := Oct.grownBy_set w7 q9 2 (.int .u16 ((k : Int) + 1))
          refine ⟨⟨k + 1, by omega, by go_num, a ++ pt, HNX2, A7, 108 * k + 108, c7, rfl, Lib.hid ⟨by omega, h7.out.2, own_kept h7.out.1 (fun g' e => hset.block g' (own_lt h7.out.1 g' e).2 (fun e' => by injection e' with e'; have := (own_lt h7.out.1 g' e).1; omega))⟩, Lib.hid (below_gb' B7.out hset HQ.out B7.out.size), Lib.hid (heap_set (C := headV (l, c + 1, k, p)) Q7.out (k := 2) _)⟩, by simp [intOf]; omega⟩
        · have hne := neq_head hh (l, c + 1, k, p)
          rw [show decide (hh ≠ (l, c + 1, k, p)) = true by simpa using he] at hne
          have hra := HNO.out (k + 1) (by omega) (by rw [HNX.out, if_neg he])
          subst hra
          have HBX : Hid (∀ W, (w4.alloc (.cells (headV (0, 0, 0, 0)).toArray 94)).grownBy W (some w4.heap.size) → Below w4.heap.size w4 W) := Lib.hid fun W hg => ((Below.refl _ _).alloc (Nat.le_refl _) _).grown hg (by simp) (fun k e => by injection e with e; omega)
          have HOX : Hid (∀ W, Below w4.heap.size w4 W → W.heap[q9]? = some (.cells (headV (l, c + 1, k, p)).toArray 94 (0, 0)) ∧ Below wo.heap.size wo W) := Lib.hid fun W hb => by
            have h1 := B4.out.trans (hb.mono B4.out.size)
            exact ⟨(h1.block _ HLT.out).trans HQ9.out, HB.out.trans (h1.mono HB.out.size)⟩
          clear HM HB HQ9 HNX HPL B4 O4 HRA
          go_wp2_with (first
            | (refine wpList_store_all rfl 94 (.tmp 11) (.tmp 36) rfl w4.heap.size (headV (0, 0, 0, 0)) (headV hh) 94 (row_new w4 (headV (0, 0, 0, 0)) 94) rfl rfl rfl Try.size94 (headV_one _) ?_; intro w5 G5)
            | (refine wpList_load_mid rfl 94 (.tmp 11) rfl w4.heap.size 0 rfl (headV hh) _ (range_block G5.out.1 0 _ (fun j v hv => by rw [Nat.zero_add]; exact hv)) Try.underlying94 rfl Try.size94 ?_)
            | (refine wpList_load_mid rfl 94 (.tmp 9) rfl q9 0 rfl (headV (l, c + 1, k, p)) _ (range_block (HOX.out _ (HBX.out _ G5.out.2)).1 0 _ (fun j v hv => by rw [Nat.zero_add]; exact hv)) Try.underlying94 rfl Try.size94 ?_)
            | fail)
          go_ret2
          exact ⟨none, 0, 0, rfl, (HOX.out _ (HBX.out _ G5.out.2)).2, HNIL.out _⟩
      · obtain rfl : k = p := by omega
        have HRS : Hid (ra = contentB a) := Lib.hid (by rw [HRA.out, HA.out])
        have HCA := Lib.hid (content_b A m cc k a wr (Oct.Rd.of_own HM.out.2.2) HM.out.2.1 HM.out.1 (by omega))
        rw [← HRS.out] at HCA
        clear HRS HRA HNO HA HM HQ9
        go_wp2_with fail
        refine HCA.out.mono ?_
        rintro E w8 ⟨A8, m8, c8, rfl, hb8, hs8, ho8⟩
        have B8 : Hid (Below wo.heap.size wo w8) := Lib.hid (HB.out.trans (hb8.mono HB.out.size))
        have H8 := Lib.hid hs8
        have O8 := Lib.hid (own_base ho8 HB.out.size)
        clear hb8 hs8 ho8
        go_wp2_with fail
        go_ret2
        exact ⟨A8, m8, c8, rfl, B8.out, H8.out, O8.out⟩
end Go.Proofs.Ytfegffdhlkhjbaa
