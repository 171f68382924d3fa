/-
  What is proved: a head's bytes; what makes a record's pages. Conditions as stated.
-/
import Derived.Test.YtfegffdhlkhjbaaBh
namespace Go.Proofs.Ytfegffdhlkhjbaa
open Go.RowKit
set_option maxRecDepth 100000

set_option maxHeartbeats 4000000 in
theorem bytes_h (l n k p : Nat) (w : World) : Calls Try.prog 68 #[.agg #[.int .u64 (l : Int), .int .u64 (n : Int), .int .u16 (k : Int), .int .u16 (p : Int)]] w fun E w' => ∃ A c, E = .returned (.slice A 20 c) ∧ w'.ownsRow w.heap.size 5 1 (.slice A 20 c) 20 (u8s (headB l n k p)) ∧ Below w.heap.size w w' := by
  have Q1 : Hid ((w.alloc (.cells #[.int .u64 (l : Int), .int .u64 (n : Int), .int .u16 (k : Int), .int .u16 (p : Int)] 94)).heap[w.heap.size]? = some (.cells (headV (l, n, k, p)).toArray 94 (0, 0))) := Lib.hid (heap_alloc_new w _)
  have B1 : Hid (Below w.heap.size w (w.alloc (.cells #[.int .u64 (l : Int), .int .u64 (n : Int), .int .u16 (k : Int), .int .u16 (p : Int)] 94))) := Lib.hid ((Below.refl _ _).alloc (Nat.le_refl _) _)
  generalize hw1 : w.alloc (.cells #[.int .u64 (l : Int), .int .u64 (n : Int), .int .u16 (k : Int), .int .u16 (p : Int)] 94) = w1 at Q1 B1
  have HW1 := Lib.hid hw1
  clear hw1
  go_enter Try.func68, Try.ntmps68
  go_wp2_with fail
  rw [HW1.out]
  clear HW1
  try simp only [Act.put, List.setIfInBounds_toArray, List.set_cons_zero, List.set_cons_succ]
  refine wp_region_any (by kernel_rfl) ?_
  change wpAny _ _ _ _ _ _ _ (w1.drewN 1)
  have Q2 : Hid ((w1.drewN 1).heap[w.heap.size]? = some (.cells (headV (l, n, k, p)).toArray 94 (0, 0))) := Lib.hid Q1.out
  have B2 : Hid (Below w.heap.size w (w1.drewN 1)) := Lib.hid (B1.out.trans (c := w1.drewN 1) ⟨rfl, rfl, rfl, Nat.le_refl _, fun _ _ => rfl⟩)
  clear Q1 B1
  generalize w1.drewN 1 = w2 at Q2 B2 ⊢
  refine wpAny_of_held (S := fun W => Below w2.heap.size w2 W) _ _ _ _ ?_
  refine wpAnyH_take (i := 0) (oi := { dst := some 4, op := Op.fieldAddr 94 (Operand.tmp 1) 0, type := 0, pos := "book.go:233", after := #[], guard := none }) (v := .pointer (some ⟨w.heap.size, 0, none⟩)) rfl (by kernel_rfl) (by kernel_rfl) (by kernel_rfl) (fun _ _ _ h => h) (Or.inl ⟨by kernel_rfl, fun W hSW => by go_simp⟩) (Below.refl _ _) ?_
  simp only [Act.put, List.setIfInBounds_toArray, List.set_cons_zero, List.set_cons_succ]
  refine wpAnyH_take (i := 1) (oi := { dst := some 5, op := Op.load 61 (Operand.tmp 4), type := 61, pos := "book.go:233", after := #[{ on := 0, ground := Ground.data }], guard := none }) (v := .int .u64 (l : Int)) rfl (by kernel_rfl) (by kernel_rfl) (by kernel_rfl) (fun _ _ _ h => h) (Or.inl ⟨by kernel_rfl, fun W hSW => by have hq := (hSW.block _ (Array.getElem?_eq_some_iff.1 Q2.out).1).trans Q2.out; have k0 := block_cell hq 0 _ rfl; have k1 := block_cell hq 1 _ rfl; have k2 := block_cell hq 2 _ rfl; have k3 := block_cell hq 3 _ rfl; go_simp⟩) (Below.refl _ _) ?_
  simp only [Act.put, List.setIfInBounds_toArray, List.set_cons_zero, List.set_cons_succ]
  refine wpAnyH_take (i := 3) (oi := { dst := some 7, op := Op.fieldAddr 94 (Operand.tmp 1) 1, type := 0, pos := "book.go:233", after := #[], guard := none }) (v := .pointer (some ⟨w.heap.size, 1, none⟩)) rfl (by kernel_rfl) (by kernel_rfl) (by kernel_rfl) (fun _ _ _ h => h) (Or.inl ⟨by kernel_rfl, fun W hSW => by go_simp⟩) (Below.refl _ _) ?_
  simp only [Act.put, List.setIfInBounds_toArray, List.set_cons_zero, List.set_cons_succ]
  refine wpAnyH_take (i := 4) (oi := { dst := some 8, op := Op.load 61 (Operand.tmp 7), type := 61, pos := "book.go:233", after := #[{ on := 3, ground := Ground.data }], guard := none }) (v := .int .u64 (n : Int)) rfl (by kernel_rfl) (by kernel_rfl) (by kernel_rfl) (fun _ _ _ h => h) (Or.inl ⟨by kernel_rfl, fun W hSW => by have hq := (hSW.block _ (Array.getElem?_eq_some_iff.1 Q2.out).1).trans Q2.out; have k0 := block_cell hq 0 _ rfl; have k1 := block_cell hq 1 _ rfl; have k2 := block_cell hq 2 _ rfl; have k3 := block_cell hq 3 _ rfl; go_simp⟩) (Below.refl _ _) ?_
  simp only [Act.put, List.setIfInBounds_toArray, List.set_cons_zero, List.set_cons_succ]
  refine wpAnyH_ready (rs := [2]) (by kernel_rfl) (by simp) ?_
  refine AllReadyH.cons (o := { dst := some 6, op := Op.call { callee := Callee.value (Operand.func 27), args := #[Operand.const (Value.slice none 0 0), Operand.tmp 5], argTypes := #[29, 61] }, type := 29, pos := "book.go:233", after := #[{ on := 1, ground := Ground.data }], guard := none }) rfl (fun K' hK' => ?_) AllReadyH.nil
  go_simp
  go_at_call 27
  refine (Oct.word_any none 0 0 [] l w2 ⟨rfl, fun h => absurd h (by omega)⟩ (by omega)).mono ?_
  rintro E w3 ⟨g3, c3, rfl, ho3, hb3⟩
  simp only [Nat.zero_add, List.nil_append] at ho3 ⊢
  have RD3 := Lib.hid (Oct.Rd.of_own ho3)
  have B3 := Lib.hid hb3
  clear ho3 hb3
  refine hK'.out _ _ B3.out (fun _ => wpAnyH_next B3.out ?_)
  clear hK' K'
  refine wpAnyH_ready (rs := [5]) (by kernel_rfl) (by simp) ?_
  refine AllReadyH.cons (o := { dst := some 9, op := Op.call { callee := Callee.value (Operand.func 27), args := #[Operand.tmp 6, Operand.tmp 8], argTypes := #[29, 61] }, type := 29, pos := "book.go:233", after := #[{ on := 2, ground := Ground.data }, { on := 4, ground := Ground.data }, { on := 2, ground := Ground.chain }], guard := none }) rfl (fun K' hK' => ?_) AllReadyH.nil
  go_simp
  go_at_call 27
  refine (Oct.word_any (some ⟨g3, 0, none⟩) 8 c3 (Oct.be 8 l) n w3 RD3.out (by omega)).mono ?_
  rintro E w4 ⟨g4, c4, rfl, ho4, hb4⟩
  have RD4 := Lib.hid (Oct.Rd.of_own ho4)
  have B4 := Lib.hid hb4
  clear ho4 hb4
  refine hK'.out _ _ B4.out (fun _ => wpAnyH_next B4.out ?_)
  clear hK' K'
  refine wpAnyH_take (i := 6) (oi := { dst := some 3, op := Op.assign (Operand.tmp 9), type := 29, pos := "book.go:233", after := #[{ on := 5, ground := Ground.data }, { on := 5, ground := Ground.chain }, { on := 0, ground := Ground.phase }, { on := 1, ground := Ground.phase }, { on := 2, ground := Ground.phase }, { on := 3, ground := Ground.phase }, { on := 4, ground := Ground.phase }, { on := 5, ground := Ground.phase }], guard := none }) (v := .slice (some ⟨g4, 0, none⟩) 16 c4) rfl (by kernel_rfl) (by kernel_rfl) (by kernel_rfl) (fun _ _ _ h => h) (Or.inl ⟨by kernel_rfl, fun W hSW => by go_simp⟩) (Below.refl _ _) ?_
  simp only [Act.put, List.setIfInBounds_toArray, List.set_cons_zero, List.set_cons_succ]
  refine wpAnyH_done (by kernel_rfl) ?_ _
  have Q5 : Hid (w4.heap[w.heap.size]? = some (.cells (headV (l, n, k, p)).toArray 94 (0, 0))) := Lib.hid (by
    have h1 := B3.out.trans (B4.out.mono B3.out.size)
    exact (h1.block _ (Array.getElem?_eq_some_iff.1 Q2.out).1).trans Q2.out)
  have B5 : Hid (Below w.heap.size w w4) := Lib.hid (by
    have h1 := B3.out.trans (B4.out.mono B3.out.size)
    exact B2.out.trans (h1.mono B2.out.size))
  clear Q2 B2 B3 B4 RD3
  go_wp2_with fail
  try simp only [Act.put, List.setIfInBounds_toArray, List.set_cons_zero, List.set_cons_succ]
  refine wp_region_any (by kernel_rfl) ?_
  change wpAny _ _ _ _ _ _ _ (w4.drewN 1)
  have Q6 : Hid ((w4.drewN 1).heap[w.heap.size]? = some (.cells (headV (l, n, k, p)).toArray 94 (0, 0))) := Lib.hid Q5.out
  have B6 : Hid (Below w.heap.size w (w4.drewN 1)) := Lib.hid (B5.out.trans (c := w4.drewN 1) ⟨rfl, rfl, rfl, Nat.le_refl _, fun _ _ => rfl⟩)
  have RD6 : Hid (Oct.Rd (w4.drewN 1) (some ⟨g4, 0, none⟩) 16 (Oct.be 8 l ++ Oct.be 8 n)) := Lib.hid RD4.out
  clear Q5 B5 RD4
  generalize w4.drewN 1 = w6 at Q6 B6 RD6 ⊢
  refine wpAny_of_held (S := fun W => Below w6.heap.size w6 W) _ _ _ _ ?_
  refine wpAnyH_take (i := 0) (oi := { dst := some 10, op := Op.move (Operand.tmp 3), type := 29, pos := "book.go:234", after := #[], guard := none }) (v := .slice (some ⟨g4, 0, none⟩) 16 c4) rfl (by kernel_rfl) (by kernel_rfl) (by kernel_rfl) (fun _ _ _ h => h) (Or.inl ⟨by kernel_rfl, fun W hSW => by go_simp⟩) (Below.refl _ _) ?_
  simp only [Act.put, List.setIfInBounds_toArray, List.set_cons_zero, List.set_cons_succ]
  refine wpAnyH_take (i := 1) (oi := { dst := some 11, op := Op.fieldAddr 94 (Operand.tmp 1) 2, type := 0, pos := "book.go:234", after := #[], guard := none }) (v := .pointer (some ⟨w.heap.size, 2, none⟩)) rfl (by kernel_rfl) (by kernel_rfl) (by kernel_rfl) (fun _ _ _ h => h) (Or.inl ⟨by kernel_rfl, fun W hSW => by go_simp⟩) (Below.refl _ _) ?_
  simp only [Act.put, List.setIfInBounds_toArray, List.set_cons_zero, List.set_cons_succ]
  refine wpAnyH_take (i := 2) (oi := { dst := some 12, op := Op.load 92 (Operand.tmp 11), type := 92, pos := "book.go:234", after := #[{ on := 1, ground := Ground.data }], guard := none }) (v := .int .u16 (k : Int)) rfl (by kernel_rfl) (by kernel_rfl) (by kernel_rfl) (fun _ _ _ h => h) (Or.inl ⟨by kernel_rfl, fun W hSW => by have hq := (hSW.block _ (Array.getElem?_eq_some_iff.1 Q6.out).1).trans Q6.out; have k0 := block_cell hq 0 _ rfl; have k1 := block_cell hq 1 _ rfl; have k2 := block_cell hq 2 _ rfl; have k3 := block_cell hq 3 _ rfl; go_simp⟩) (Below.refl _ _) ?_
  simp only [Act.put, List.setIfInBounds_toArray, List.set_cons_zero, List.set_cons_succ]
  refine wpAnyH_take (i := 4) (oi := { dst := some 14, op := Op.fieldAddr 94 (Operand.tmp 1) 3, type := 0, pos := "book.go:234", after := #[], guard := none }) (v := .pointer (some ⟨w.heap.size, 3, none⟩)) rfl (by kernel_rfl) (by kernel_rfl) (by kernel_rfl) (fun _ _ _ h => h) (Or.inl ⟨by kernel_rfl, fun W hSW => by go_simp⟩) (Below.refl _ _) ?_
  simp only [Act.put, List.setIfInBounds_toArray, List.set_cons_zero, List.set_cons_succ]
  refine wpAnyH_take (i := 5) (oi := { dst := some 15, op := Op.load 92 (Operand.tmp 14), type := 92, pos := "book.go:234", after := #[{ on := 4, ground := Ground.data }], guard := none }) (v := .int .u16 (p : Int)) rfl (by kernel_rfl) (by kernel_rfl) (by kernel_rfl) (fun _ _ _ h => h) (Or.inl ⟨by kernel_rfl, fun W hSW => by have hq := (hSW.block _ (Array.getElem?_eq_some_iff.1 Q6.out).1).trans Q6.out; have k0 := block_cell hq 0 _ rfl; have k1 := block_cell hq 1 _ rfl; have k2 := block_cell hq 2 _ rfl; have k3 := block_cell hq 3 _ rfl; go_simp⟩) (Below.refl _ _) ?_
  simp only [Act.put, List.setIfInBounds_toArray, List.set_cons_zero, List.set_cons_succ]
  refine wpAnyH_ready (rs := [3]) (by kernel_rfl) (by simp) ?_
  refine AllReadyH.cons (o := { dst := some 13, op := Op.call { callee := Callee.value (Operand.func 66), args := #[Operand.tmp 10, Operand.tmp 12], argTypes := #[29, 92] }, type := 29, pos := "book.go:234", after := #[{ on := 0, ground := Ground.data }, { on := 2, ground := Ground.data }], guard := none }) rfl (fun K' hK' => ?_) AllReadyH.nil
  go_simp
  go_at_call 66
  refine (Oct.half_any (some ⟨g4, 0, none⟩) 16 c4 (Oct.be 8 l ++ Oct.be 8 n) k w6 RD6.out (by omega)).mono ?_
  rintro E w7 ⟨g7, c7, rfl, ho7, hb7⟩
  have RD7 := Lib.hid (Oct.Rd.of_own ho7)
  have B7 := Lib.hid hb7
  clear ho7 hb7
  refine hK'.out _ _ B7.out (fun _ => wpAnyH_next B7.out ?_)
  clear hK' K'
  refine wpAnyH_ready (rs := [6]) (by kernel_rfl) (by simp) ?_
  refine AllReadyH.cons (o := { dst := some 16, op := Op.call { callee := Callee.value (Operand.func 66), args := #[Operand.tmp 13, Operand.tmp 15], argTypes := #[29, 92] }, type := 29, pos := "book.go:234", after := #[{ on := 3, ground := Ground.data }, { on := 5, ground := Ground.data }, { on := 3, ground := Ground.chain }], guard := none }) rfl (fun K' hK' => ?_) AllReadyH.nil
  go_simp
  go_at_call 66
  refine (Oct.half_any (some ⟨g7, 0, none⟩) 18 c7 (Oct.be 8 l ++ Oct.be 8 n ++ Oct.be 2 k) p w7 RD7.out (by omega)).mono ?_
  rintro E w8 ⟨g8, c8, rfl, ho8, hb8⟩
  have B8 := Lib.hid hb8
  have O8 : Hid (w8.ownsRow w.heap.size 5 1 (.slice (some ⟨g8, 0, none⟩) 20 c8) 20 (u8s (headB l n k p))) := Lib.hid (own_base ho8 (Nat.le_trans B6.out.size B7.out.size))
  clear ho8 hb8
  refine hK'.out _ _ B8.out (fun _ => wpAnyH_next B8.out ?_)
  clear hK' K'
  refine wpAnyH_take (i := 7) (oi := { dst := some 2, op := Op.assign (Operand.tmp 16), type := 29, pos := "book.go:234", after := #[{ on := 6, ground := Ground.data }, { on := 6, ground := Ground.chain }, { on := 0, ground := Ground.phase }, { on := 1, ground := Ground.phase }, { on := 2, ground := Ground.phase }, { on := 3, ground := Ground.phase }, { on := 4, ground := Ground.phase }, { on := 5, ground := Ground.phase }, { on := 6, ground := Ground.phase }], guard := none }) (v := .slice (some ⟨g8, 0, none⟩) 20 c8) rfl (by kernel_rfl) (by kernel_rfl) (by kernel_rfl) (fun _ _ _ h => h) (Or.inl ⟨by kernel_rfl, fun W hSW => by go_simp⟩) (Below.refl _ _) ?_
  simp only [Act.put, List.setIfInBounds_toArray, List.set_cons_zero, List.set_cons_succ]
  refine wpAnyH_done (by kernel_rfl) ?_ _
  have B9 : Hid (Below w.heap.size w w8) := Lib.hid (by
    have h1 := B7.out.trans (B8.out.mono B7.out.size)
    exact B6.out.trans (h1.mono B6.out.size))
  clear Q6 B6 B7 B8 RD6 RD7
  go_wp2_with fail
  go_ret
  exact ⟨some ⟨g8, 0, none⟩, c8, rfl, O8.out, B9.out⟩
end Go.Proofs.Ytfegffdhlkhjbaa
