/-
  What is proved: the walk of OctetPuts for whatever comes in. Conditions as stated.
-/
import Derived.Test.YthnmmhjnfhmleaaR
import Derived.Deep.Cut
import Derived.Deep.RegionHeld
namespace Go.Proofs.Ythnmmhjnfhmleaa
open Go.RowKit

theorem wpAnyH_mono {P : Program} {md : Region.Mode} {ops : Array Oper} {Q : Exit → Act → World → Prop} {S S' : World → Prop} (hS : ∀ w, S' w → S w) : ∀ (fuel : Nat) (listed : Array Bool) (a : Act) (w : World), wpAnyH P md ops Q S' fuel listed a w → wpAnyH P md ops Q S fuel listed a w
  | 0, _, _, _, h => h
  | fuel + 1, _, _, _, h => ⟨h.1, fun i hi => wpOp_mono (fun a' w' h' => ⟨hS _ h'.1, wpAnyH_mono hS fuel _ a' w' h'.2⟩) (h.2 i hi)⟩
/-- From here on all memory that there is stays as it is. -/
theorem wpAnyH_next {P : Program} {md : Region.Mode} {ops : Array Oper} {Q : Exit → Act → World → Prop} {w0 w1 : World} (hb : Below w0.heap.size w0 w1) {fuel : Nat} {listed : Array Bool} {a : Act}
    (h : wpAnyH P md ops Q (fun W => Below w1.heap.size w1 W) fuel listed a w1) : wpAnyH P md ops Q (fun W => Below w0.heap.size w0 W) fuel listed a w1 :=
  wpAnyH_mono (fun _ h => hb.trans (h.mono hb.size)) _ _ _ _ h

theorem range_of_heap {w : World} {g : Nat} {C : List Value} {t : TypeId} (h : w.heap[g]? = some (.cells C.toArray t (0, 0))) (j : Nat) (v : Value) (hv : C[j]? = some v) : w.cell? ⟨g, j, none⟩ = some v := by
  rw [cell_of_row w g j _ t (0, 0) h]
  simpa using hv
theorem splice_room (x : List UInt8) (k : Nat) : splice (List.replicate (x.length + k) (Value.int .u8 0)) 0 (u8s x) = u8s (x ++ List.replicate k 0) := by
  unfold splice
  rw [List.take_zero, List.nil_append, u8s_length, Nat.zero_add, u8s_append]
  congr 1
  rw [List.drop_replicate, Nat.add_sub_cancel_left]
  simp only [u8s, List.map_replicate]
  rfl

theorem own_key (key : List UInt8) (j : Nat) (u : UInt8) (hu : key[j]? = some u) : (u8s (key ++ List.replicate 32 0))[j]? = some (.int .u8 (u.toNat : Int)) := by
  have hj : j < key.length := (List.getElem?_eq_some_iff.1 hu).1
  rw [u8s_append, List.getElem?_append_left (by rw [u8s_length]; exact hj), u8s, List.getElem?_map, hu]
  rfl
theorem own_nought (key : List UInt8) (j : Nat) (h1 : key.length ≤ j) (h2 : j < key.length + 32) : (u8s (key ++ List.replicate 32 0))[j]? = some (.int .u8 0) := by
  rw [u8s_append, List.getElem?_append_right (by rw [u8s_length]; exact h1), u8s_length, u8s, List.getElem?_map, List.getElem?_replicate, if_pos (by omega)]
  rfl

/-- What is read through all of the law. -/
structure FaP (bs T : List UInt8) (A : Option Addr) (n : Nat) (A3 : Option Addr) (m3 : Nat) (A4 : Option Addr) (m4 : Nat) (w wr : World) : Prop where
  bel : Below w.heap.size w wr
  own : Rd wr (some ⟨w.heap.size, 0, none⟩) n bs
  blk : wr.heap[w.heap.size]? = some (.cells (u8s (bs ++ List.replicate 32 0)).toArray 5 (0, 0))
  arg : Rd wr A n bs
  x : Rd wr A3 m3 T
  y : Rd wr A4 m4 T
  lt : w.heap.size < wr.heap.size
theorem FaP.next {bs T : List UInt8} {A : Option Addr} {n : Nat} {A3 : Option Addr} {m3 : Nat} {A4 : Option Addr} {m4 : Nat} {w wr w' : World} (H : FaP bs T A n A3 m3 A4 m4 w wr) (hb : Below wr.heap.size wr w') : FaP bs T A n A3 m3 A4 m4 w w' :=
  ⟨H.bel.trans (hb.mono H.bel.size), H.own.below hb, (hb.block _ H.lt).trans H.blk, H.arg.below hb, H.x.below hb, H.y.below hb, Nat.lt_of_lt_of_le H.lt hb.size⟩
theorem below_drew1 (w : World) : Below w.heap.size w (w.drewN 1) := ⟨rfl, rfl, rfl, Nat.le_refl _, fun _ _ => rfl⟩

set_option maxHeartbeats 8000000 in
set_option maxRecDepth 100000 in
theorem octetPuts_ok (A : Option Addr) (n c : Nat) (bs : List UInt8) (num h : Nat) (s : ByteArray) (w : World) (hr : Rd w A n bs) (hsl : Sl A n c) (hn : n + s.size ≤ 131072) (hh : h < 65536) :
    Calls Try.prog 3 #[.slice A n c, .int .u64 num, .int .u16 h, .string s] w fun e w' => e = .returned (.bool true) ∧ Below w.heap.size w w' := by
  have HR : Hid (Rd w A n bs) := hr
  have HSL : Hid (Sl A n c) := hsl
  clear hr hsl
  obtain ⟨E, hE⟩ : ∃ E, E = txtErr s := ⟨_, rfl⟩
  obtain ⟨sT, hsT⟩ : ∃ sT, sT = str (txt bs s) := ⟨_, rfl⟩
  obtain ⟨sA, hsA⟩ : ∃ sA, sA = str (bs ++ be 8 num) := ⟨_, rfl⟩
  obtain ⟨sB, hsB⟩ : ∃ sB, sB = str (bs ++ be 2 h) := ⟨_, rfl⟩
  have HST := Lib.hid hsT
  have HSA := Lib.hid hsA
  have HSB := Lib.hid hsB
  have TA : Hid (∀ wx : World, Rd wx (some ⟨w.heap.size, 0, none⟩) n bs → Calls Try.prog 10 #[.slice (some ⟨w.heap.size, 0, none⟩) n (n + 32), .string s] wx fun e w' => ∃ A' m c', e = .returned (.tuple #[.slice A' m c', .int .i64 E]) ∧ Hid (Rd w' A' m (txt bs s)) ∧ Below wx.heap.size wx w') := Lib.hid fun wx h => by rw [hE]; exact text_all _ n (n + 32) bs s wx h hn
  have TB : Hid (∀ wx : World, Rd wx A n bs → Calls Try.prog 11 #[.slice A n c, .string s] wx fun e w' => ∃ A' m c', e = .returned (.tuple #[.slice A' m c', .int .i64 E]) ∧ Hid (Rd w' A' m (txt bs s)) ∧ Below wx.heap.size wx w') := Lib.hid fun wx h => by rw [hE]; exact refText_all A n c bs s wx h HSL.out hn
  clear hE hsT hsA hsB
  go_enter Try.func3, Try.ntmps3
  go_upto_region 6 with (first
    | (at_make; go_must (refine wpList_make_lc _ rfl _ _ rfl _ _ 0 (n + 32) rfl rfl (by omega) (by omega) (by omega) (by omega) ?_); intro w1 hw1 hb1 hs1)
    | (at_builtin; go_must (refine wpList_append_into (w0 := w) rfl (.tmp 27) (.tmp 28) rfl w.heap.size (n + 32) n c A bs rfl rfl hw1 (HR.out.below hb1) HSL.out hb1 (by omega) (by omega) ?_); intro w2 hw2 hb2 hs2; have H2 : Hid (Below w.heap.size w w2 ∧ w2.heap[w.heap.size]? = some (.cells (u8s (bs ++ List.replicate 32 0)).toArray 5 (0, 0)) ∧ w.heap.size < w2.heap.size ∧ Rd w2 (some ⟨w.heap.size, 0, none⟩) n bs) := Lib.hid ⟨hb2, by rw [← splice_room, HR.out.1]; exact hw2.out, by omega, Rd.of_own (B := w.heap.size) (copy_put HR.out.1 (by omega) (by unfold maxLen; omega) (Nat.le_refl _) hw2.out)⟩; clear hw1 hb1 hs1 hw2 hb2 hs2)
    | (go_at_call 10; refine (TA.out w2 H2.out.2.2.2).mono ?_; rintro e w3 ⟨A3, m3, c3, rfl, h3, hb3⟩; have H3 : Hid (Below w.heap.size w w3 ∧ w3.heap[w.heap.size]? = some (.cells (u8s (bs ++ List.replicate 32 0)).toArray 5 (0, 0)) ∧ w.heap.size < w3.heap.size ∧ Rd w3 (some ⟨w.heap.size, 0, none⟩) n bs) := Lib.hid ⟨H2.out.1.trans (hb3.mono H2.out.1.size), (hb3.block _ H2.out.2.2.1).trans H2.out.2.1, Nat.lt_of_lt_of_le H2.out.2.2.1 hb3.size, H2.out.2.2.2.below hb3⟩; clear hb3)
    | (go_at_call 11; refine (TB.out w3 (HR.out.below H3.out.1)).mono ?_; rintro e w4 ⟨A4, m4, c4, rfl, h4, hb4⟩; have F4 : Hid (FaP bs (txt bs s) A n A3 m3 A4 m4 w w4) := Lib.hid ⟨H3.out.1.trans (hb4.mono H3.out.1.size), H3.out.2.2.2.below hb4, (hb4.block _ H3.out.2.2.1).trans H3.out.2.1, (HR.out.below H3.out.1).below hb4, h3.out.below hb4, h4.out, Nat.lt_of_lt_of_le H3.out.2.2.1 hb4.size⟩; clear hb4)
    | fail)
  try simp only [Act.put]
  clear h3 h4 H2 H3 TA TB
  go_cut [14] from 17 (fun s14 wx => s14 = .bool true ∧ Hid (FaP bs (txt bs s) A n A3 m3 A4 m4 w wx))
  case first =>
    have FD : Hid (FaP bs (txt bs s) A n A3 m3 A4 m4 w (w4.drewN 1)) := Lib.hid (F4.out.next (below_drew1 w4))
    refine wp_region_any (by kernel_rfl) ?_
    change wpAny _ _ _ _ _ _ _ (w4.drewN 1)
    generalize w4.drewN 1 = wD at FD ⊢
    refine wpAny_of_held (S := fun W => Below wD.heap.size wD W) _ _ _ _ ?_
    refine wpAnyH_take (i := 0) (oi := { dst := some 42, op := Op.move (Operand.tmp 9), type := 22, pos := "law.go:29", after := #[], guard := none }) (v := (.slice (some ⟨w.heap.size, 0, none⟩) n (n + 32))) rfl (by kernel_rfl) (by kernel_rfl) (by kernel_rfl) (fun _ _ _ h => h) (Or.inl ⟨by kernel_rfl, fun W hSW => by go_simp⟩) (Below.refl _ _) ?_
    simp only [Act.put, List.setIfInBounds_toArray, List.set_cons_zero, List.set_cons_succ]
    refine wpAnyH_take (i := 1) (oi := { dst := some 43, op := Op.move (Operand.tmp 1), type := 23, pos := "law.go:29", after := #[], guard := none }) (v := (.int .u64 num)) rfl (by kernel_rfl) (by kernel_rfl) (by kernel_rfl) (fun _ _ _ h => h) (Or.inl ⟨by kernel_rfl, fun W hSW => by go_simp⟩) (Below.refl _ _) ?_
    simp only [Act.put, List.setIfInBounds_toArray, List.set_cons_zero, List.set_cons_succ]
    refine wpAnyH_take (i := 4) (oi := { dst := some 46, op := Op.move (Operand.tmp 0), type := 22, pos := "law.go:29", after := #[], guard := none }) (v := (.slice A n c)) rfl (by kernel_rfl) (by kernel_rfl) (by kernel_rfl) (fun _ _ _ h => h) (Or.inl ⟨by kernel_rfl, fun W hSW => by go_simp⟩) (Below.refl _ _) ?_
    simp only [Act.put, List.setIfInBounds_toArray, List.set_cons_zero, List.set_cons_succ]
    refine wpAnyH_take (i := 5) (oi := { dst := some 47, op := Op.move (Operand.tmp 1), type := 23, pos := "law.go:29", after := #[], guard := none }) (v := (.int .u64 num)) rfl (by kernel_rfl) (by kernel_rfl) (by kernel_rfl) (fun _ _ _ h => h) (Or.inl ⟨by kernel_rfl, fun W hSW => by go_simp⟩) (Below.refl _ _) ?_
    simp only [Act.put, List.setIfInBounds_toArray, List.set_cons_zero, List.set_cons_succ]
    refine wpAnyH_ready (rs := [2]) (by kernel_rfl) (by simp) ?_
    refine AllReadyH.cons (o := { dst := some 44, op := Op.call { callee := Callee.value (Operand.func 12), args := #[Operand.tmp 42, Operand.tmp 43], argTypes := #[22, 23] }, type := 22, pos := "law.go:29", after := #[{ on := 0, ground := Ground.data }, { on := 1, ground := Ground.data }], guard := none }) rfl (fun K hK => ?_) AllReadyH.nil
    go_simp
    go_at_call 12
    refine (word_any (some ⟨w.heap.size, 0, none⟩) n (n + 32) bs num wD FD.out.own (by omega)).mono ?_
    rintro E w5 ⟨g5, c5, rfl, ho5, hb5⟩
    refine hK.out _ _ hb5 (fun _ => ?_)
    clear hK K
    refine wpAnyH_next hb5 ?_
    have F5 := Lib.hid (FD.out.next hb5)
    have D5 : Hid (∀ W : World, Below w5.heap.size w5 W → (convert 22 9 (.slice (some ⟨g5, 0, none⟩) (n + 8) c5)).run Try.prog W = .ok (.string sA) W) := Lib.hid fun W h => conv_at ((Rd.of_own ho5).below h) HSA.out
    clear ho5
    clear hb5
    refine wpAnyH_take (i := 3) (oi := { dst := some 45, op := Op.convert 22 9 (Operand.tmp 44), type := 9, pos := "law.go:29", after := #[{ on := 2, ground := Ground.data }], guard := none }) (v := (.string sA)) rfl (by kernel_rfl) (by kernel_rfl) (by kernel_rfl) (fun _ _ _ h => h) (Or.inl ⟨by kernel_rfl, fun W hSW => by have hcv := D5.out W hSW; go_simp⟩) (Below.refl _ _) ?_
    simp only [Act.put, List.setIfInBounds_toArray, List.set_cons_zero, List.set_cons_succ]
    refine wpAnyH_ready (rs := [6]) (by kernel_rfl) (by simp) ?_
    refine AllReadyH.cons (o := { dst := some 48, op := Op.call { callee := Callee.value (Operand.func 13), args := #[Operand.tmp 46, Operand.tmp 47], argTypes := #[22, 23] }, type := 22, pos := "law.go:29", after := #[{ on := 4, ground := Ground.data }, { on := 5, ground := Ground.data }, { on := 2, ground := Ground.chain }], guard := none }) rfl (fun K hK => ?_) AllReadyH.nil
    go_simp
    go_at_call 13
    refine (refWord_any A n c bs num w5 F5.out.arg HSL.out (by omega)).mono ?_
    rintro E w6 ⟨A6, c6, rfl, h6, hb6⟩
    refine hK.out _ _ hb6 (fun _ => ?_)
    clear hK K
    refine wpAnyH_next hb6 ?_
    have F6 := Lib.hid (F5.out.next hb6)
    have D6 : Hid (∀ W : World, Below w6.heap.size w6 W → (convert 22 9 (.slice A6 (n + 8) c6)).run Try.prog W = .ok (.string sA) W) := Lib.hid fun W h => conv_at (h6.out.1.below h) HSA.out
    clear h6
    clear hb6
    refine wpAnyH_take (i := 7) (oi := { dst := some 49, op := Op.convert 22 9 (Operand.tmp 48), type := 9, pos := "law.go:29", after := #[{ on := 6, ground := Ground.data }], guard := none }) (v := (.string sA)) rfl (by kernel_rfl) (by kernel_rfl) (by kernel_rfl) (fun _ _ _ h => h) (Or.inl ⟨by kernel_rfl, fun W hSW => by have hcv := D6.out W hSW; go_simp⟩) (Below.refl _ _) ?_
    simp only [Act.put, List.setIfInBounds_toArray, List.set_cons_zero, List.set_cons_succ]
    refine wpAnyH_take (i := 8) (oi := { dst := some 50, op := Op.binOp BinOp.eql 9 (Operand.tmp 45) (Operand.tmp 49) 9, type := 4, pos := "law.go:29", after := #[{ on := 3, ground := Ground.data }, { on := 7, ground := Ground.data }], guard := none }) (v := (.bool true)) rfl (by kernel_rfl) (by kernel_rfl) (by kernel_rfl) (fun _ _ _ h => h) (Or.inl ⟨by kernel_rfl, fun W hSW => by go_simp⟩) (Below.refl _ _) ?_
    simp only [Act.put, List.setIfInBounds_toArray, List.set_cons_zero, List.set_cons_succ]
    refine wpAnyH_take (i := 9) (oi := { dst := some 51, op := Op.move (Operand.tmp 50), type := 4, pos := "law.go:29", after := #[{ on := 8, ground := Ground.data }, { on := 6, ground := Ground.chain }], guard := none }) (v := (.bool true)) rfl (by kernel_rfl) (by kernel_rfl) (by kernel_rfl) (fun _ _ _ h => h) (Or.inl ⟨by kernel_rfl, fun W hSW => by go_simp⟩) (Below.refl _ _) ?_
    simp only [Act.put, List.setIfInBounds_toArray, List.set_cons_zero, List.set_cons_succ]
    refine wpAnyH_take (i := 10) (oi := { dst := some 52, op := Op.move (Operand.tmp 9), type := 22, pos := "law.go:29", after := #[{ on := 9, ground := Ground.guard }], guard := some (9, true) }) (v := (.slice (some ⟨w.heap.size, 0, none⟩) n (n + 32))) rfl (by kernel_rfl) (by kernel_rfl) (by kernel_rfl) (fun _ _ _ h => h) (Or.inl ⟨by kernel_rfl, fun W hSW => by go_simp⟩) (Below.refl _ _) ?_
    simp only [Act.put, List.setIfInBounds_toArray, List.set_cons_zero, List.set_cons_succ]
    refine wpAnyH_take (i := 11) (oi := { dst := some 53, op := Op.move (Operand.tmp 2), type := 24, pos := "law.go:29", after := #[{ on := 9, ground := Ground.guard }], guard := some (9, true) }) (v := (.int .u16 h)) rfl (by kernel_rfl) (by kernel_rfl) (by kernel_rfl) (fun _ _ _ h => h) (Or.inl ⟨by kernel_rfl, fun W hSW => by go_simp⟩) (Below.refl _ _) ?_
    simp only [Act.put, List.setIfInBounds_toArray, List.set_cons_zero, List.set_cons_succ]
    refine wpAnyH_take (i := 14) (oi := { dst := some 56, op := Op.move (Operand.tmp 0), type := 22, pos := "law.go:29", after := #[{ on := 9, ground := Ground.guard }], guard := some (9, true) }) (v := (.slice A n c)) rfl (by kernel_rfl) (by kernel_rfl) (by kernel_rfl) (fun _ _ _ h => h) (Or.inl ⟨by kernel_rfl, fun W hSW => by go_simp⟩) (Below.refl _ _) ?_
    simp only [Act.put, List.setIfInBounds_toArray, List.set_cons_zero, List.set_cons_succ]
    refine wpAnyH_take (i := 15) (oi := { dst := some 57, op := Op.move (Operand.tmp 2), type := 24, pos := "law.go:29", after := #[{ on := 9, ground := Ground.guard }], guard := some (9, true) }) (v := (.int .u16 h)) rfl (by kernel_rfl) (by kernel_rfl) (by kernel_rfl) (fun _ _ _ h => h) (Or.inl ⟨by kernel_rfl, fun W hSW => by go_simp⟩) (Below.refl _ _) ?_
    simp only [Act.put, List.setIfInBounds_toArray, List.set_cons_zero, List.set_cons_succ]
    refine wpAnyH_ready (rs := [12]) (by kernel_rfl) (by simp) ?_
    refine AllReadyH.cons (o := { dst := some 54, op := Op.call { callee := Callee.value (Operand.func 14), args := #[Operand.tmp 52, Operand.tmp 53], argTypes := #[22, 24] }, type := 22, pos := "law.go:29", after := #[{ on := 10, ground := Ground.data }, { on := 11, ground := Ground.data }, { on := 9, ground := Ground.chain }, { on := 9, ground := Ground.guard }], guard := some (9, true) }) rfl (fun K hK => ?_) AllReadyH.nil
    go_simp
    go_at_call 14
    refine (half_any (some ⟨w.heap.size, 0, none⟩) n (n + 32) bs h w6 F6.out.own (by omega)).mono ?_
    rintro E w7 ⟨g7, c7, rfl, ho7, hb7⟩
    refine hK.out _ _ hb7 (fun _ => ?_)
    clear hK K
    refine wpAnyH_next hb7 ?_
    have F7 := Lib.hid (F6.out.next hb7)
    have D7 : Hid (∀ W : World, Below w7.heap.size w7 W → (convert 22 9 (.slice (some ⟨g7, 0, none⟩) (n + 2) c7)).run Try.prog W = .ok (.string sB) W) := Lib.hid fun W h => conv_at ((Rd.of_own ho7).below h) HSB.out
    clear ho7
    clear hb7
    refine wpAnyH_take (i := 13) (oi := { dst := some 55, op := Op.convert 22 9 (Operand.tmp 54), type := 9, pos := "law.go:29", after := #[{ on := 12, ground := Ground.data }, { on := 9, ground := Ground.guard }], guard := some (9, true) }) (v := (.string sB)) rfl (by kernel_rfl) (by kernel_rfl) (by kernel_rfl) (fun _ _ _ h => h) (Or.inl ⟨by kernel_rfl, fun W hSW => by have hcv := D7.out W hSW; go_simp⟩) (Below.refl _ _) ?_
    simp only [Act.put, List.setIfInBounds_toArray, List.set_cons_zero, List.set_cons_succ]
    refine wpAnyH_ready (rs := [16]) (by kernel_rfl) (by simp) ?_
    refine AllReadyH.cons (o := { dst := some 58, op := Op.call { callee := Callee.value (Operand.func 15), args := #[Operand.tmp 56, Operand.tmp 57], argTypes := #[22, 24] }, type := 22, pos := "law.go:29", after := #[{ on := 14, ground := Ground.data }, { on := 15, ground := Ground.data }, { on := 12, ground := Ground.chain }, { on := 9, ground := Ground.guard }], guard := some (9, true) }) rfl (fun K hK => ?_) AllReadyH.nil
    go_simp
    go_at_call 15
    refine (refHalf_any A n c bs h w7 F7.out.arg HSL.out (by omega) hh).mono ?_
    rintro E w8 ⟨A8, c8, rfl, h8, hb8⟩
    refine hK.out _ _ hb8 (fun _ => ?_)
    clear hK K
    refine wpAnyH_next hb8 ?_
    have F8 := Lib.hid (F7.out.next hb8)
    have D8 : Hid (∀ W : World, Below w8.heap.size w8 W → (convert 22 9 (.slice A8 (n + 2) c8)).run Try.prog W = .ok (.string sB) W) := Lib.hid fun W h => conv_at ((Rd.of_own h8.out.1).below h) HSB.out
    clear h8
    have D9 : Hid (∀ W : World, Below w8.heap.size w8 W → (convert 22 9 (.slice A3 m3 c3)).run Try.prog W = .ok (.string sT) W) := Lib.hid fun W h => conv_at (F8.out.x.below h) HST.out
    have D10 : Hid (∀ W : World, Below w8.heap.size w8 W → (convert 22 9 (.slice A4 m4 c4)).run Try.prog W = .ok (.string sT) W) := Lib.hid fun W h => conv_at (F8.out.y.below h) HST.out
    clear hb8
    refine wpAnyH_take (i := 17) (oi := { dst := some 59, op := Op.convert 22 9 (Operand.tmp 58), type := 9, pos := "law.go:29", after := #[{ on := 16, ground := Ground.data }, { on := 9, ground := Ground.guard }], guard := some (9, true) }) (v := (.string sB)) rfl (by kernel_rfl) (by kernel_rfl) (by kernel_rfl) (fun _ _ _ h => h) (Or.inl ⟨by kernel_rfl, fun W hSW => by have hcv := D8.out W hSW; go_simp⟩) (Below.refl _ _) ?_
    simp only [Act.put, List.setIfInBounds_toArray, List.set_cons_zero, List.set_cons_succ]
    refine wpAnyH_take (i := 18) (oi := { dst := some 60, op := Op.binOp BinOp.eql 9 (Operand.tmp 55) (Operand.tmp 59) 9, type := 4, pos := "law.go:29", after := #[{ on := 13, ground := Ground.data }, { on := 17, ground := Ground.data }, { on := 9, ground := Ground.guard }], guard := some (9, true) }) (v := (.bool true)) rfl (by kernel_rfl) (by kernel_rfl) (by kernel_rfl) (fun _ _ _ h => h) (Or.inl ⟨by kernel_rfl, fun W hSW => by go_simp⟩) (Below.refl _ _) ?_
    simp only [Act.put, List.setIfInBounds_toArray, List.set_cons_zero, List.set_cons_succ]
    refine wpAnyH_take (i := 19) (oi := { dst := some 61, op := Op.pick (Operand.tmp 51) (Operand.tmp 60) (Operand.const (Value.bool false)), type := 4, pos := "law.go:29", after := #[{ on := 9, ground := Ground.data }, { on := 18, ground := Ground.data }], guard := none }) (v := (.bool true)) rfl (by kernel_rfl) (by kernel_rfl) (by kernel_rfl) (fun _ _ _ h => h) (Or.inl ⟨by kernel_rfl, fun W hSW => by go_simp⟩) (Below.refl _ _) ?_
    simp only [Act.put, List.setIfInBounds_toArray, List.set_cons_zero, List.set_cons_succ]
    refine wpAnyH_take (i := 20) (oi := { dst := some 62, op := Op.move (Operand.tmp 61), type := 4, pos := "law.go:29", after := #[{ on := 19, ground := Ground.data }, { on := 16, ground := Ground.chain }], guard := none }) (v := (.bool true)) rfl (by kernel_rfl) (by kernel_rfl) (by kernel_rfl) (fun _ _ _ h => h) (Or.inl ⟨by kernel_rfl, fun W hSW => by go_simp⟩) (Below.refl _ _) ?_
    simp only [Act.put, List.setIfInBounds_toArray, List.set_cons_zero, List.set_cons_succ]
    refine wpAnyH_take (i := 21) (oi := { dst := some 63, op := Op.move (Operand.tmp 10), type := 22, pos := "law.go:29", after := #[{ on := 20, ground := Ground.guard }], guard := some (20, true) }) (v := (.slice A3 m3 c3)) rfl (by kernel_rfl) (by kernel_rfl) (by kernel_rfl) (fun _ _ _ h => h) (Or.inl ⟨by kernel_rfl, fun W hSW => by go_simp⟩) (Below.refl _ _) ?_
    simp only [Act.put, List.setIfInBounds_toArray, List.set_cons_zero, List.set_cons_succ]
    refine wpAnyH_take (i := 22) (oi := { dst := some 64, op := Op.convert 22 9 (Operand.tmp 63), type := 9, pos := "law.go:29", after := #[{ on := 21, ground := Ground.data }, { on := 20, ground := Ground.guard }], guard := some (20, true) }) (v := (.string sT)) rfl (by kernel_rfl) (by kernel_rfl) (by kernel_rfl) (fun _ _ _ h => h) (Or.inl ⟨by kernel_rfl, fun W hSW => by have hcv := D9.out W hSW; go_simp⟩) (Below.refl _ _) ?_
    simp only [Act.put, List.setIfInBounds_toArray, List.set_cons_zero, List.set_cons_succ]
    refine wpAnyH_take (i := 23) (oi := { dst := some 65, op := Op.move (Operand.tmp 12), type := 22, pos := "law.go:29", after := #[{ on := 20, ground := Ground.guard }], guard := some (20, true) }) (v := (.slice A4 m4 c4)) rfl (by kernel_rfl) (by kernel_rfl) (by kernel_rfl) (fun _ _ _ h => h) (Or.inl ⟨by kernel_rfl, fun W hSW => by go_simp⟩) (Below.refl _ _) ?_
    simp only [Act.put, List.setIfInBounds_toArray, List.set_cons_zero, List.set_cons_succ]
    refine wpAnyH_take (i := 24) (oi := { dst := some 66, op := Op.convert 22 9 (Operand.tmp 65), type := 9, pos := "law.go:29", after := #[{ on := 23, ground := Ground.data }, { on := 20, ground := Ground.guard }], guard := some (20, true) }) (v := (.string sT)) rfl (by kernel_rfl) (by kernel_rfl) (by kernel_rfl) (fun _ _ _ h => h) (Or.inl ⟨by kernel_rfl, fun W hSW => by have hcv := D10.out W hSW; go_simp⟩) (Below.refl _ _) ?_
    simp only [Act.put, List.setIfInBounds_toArray, List.set_cons_zero, List.set_cons_succ]
    refine wpAnyH_take (i := 25) (oi := { dst := some 67, op := Op.binOp BinOp.eql 9 (Operand.tmp 64) (Operand.tmp 66) 9, type := 4, pos := "law.go:29", after := #[{ on := 22, ground := Ground.data }, { on := 24, ground := Ground.data }, { on := 20, ground := Ground.guard }], guard := some (20, true) }) (v := (.bool true)) rfl (by kernel_rfl) (by kernel_rfl) (by kernel_rfl) (fun _ _ _ h => h) (Or.inl ⟨by kernel_rfl, fun W hSW => by go_simp⟩) (Below.refl _ _) ?_
    simp only [Act.put, List.setIfInBounds_toArray, List.set_cons_zero, List.set_cons_succ]
    refine wpAnyH_take (i := 26) (oi := { dst := some 68, op := Op.pick (Operand.tmp 62) (Operand.tmp 67) (Operand.const (Value.bool false)), type := 4, pos := "law.go:29", after := #[{ on := 20, ground := Ground.data }, { on := 25, ground := Ground.data }], guard := none }) (v := (.bool true)) rfl (by kernel_rfl) (by kernel_rfl) (by kernel_rfl) (fun _ _ _ h => h) (Or.inl ⟨by kernel_rfl, fun W hSW => by go_simp⟩) (Below.refl _ _) ?_
    simp only [Act.put, List.setIfInBounds_toArray, List.set_cons_zero, List.set_cons_succ]
    refine wpAnyH_take (i := 27) (oi := { dst := some 69, op := Op.move (Operand.tmp 68), type := 4, pos := "law.go:29", after := #[{ on := 26, ground := Ground.data }, { on := 20, ground := Ground.chain }], guard := none }) (v := (.bool true)) rfl (by kernel_rfl) (by kernel_rfl) (by kernel_rfl) (fun _ _ _ h => h) (Or.inl ⟨by kernel_rfl, fun W hSW => by go_simp⟩) (Below.refl _ _) ?_
    simp only [Act.put, List.setIfInBounds_toArray, List.set_cons_zero, List.set_cons_succ]
    refine wpAnyH_take (i := 28) (oi := { dst := some 70, op := Op.move (Operand.tmp 11), type := 26, pos := "law.go:29", after := #[{ on := 27, ground := Ground.guard }], guard := some (27, true) }) (v := (.int .i64 E)) rfl (by kernel_rfl) (by kernel_rfl) (by kernel_rfl) (fun _ _ _ h => h) (Or.inl ⟨by kernel_rfl, fun W hSW => by go_simp⟩) (Below.refl _ _) ?_
    simp only [Act.put, List.setIfInBounds_toArray, List.set_cons_zero, List.set_cons_succ]
    refine wpAnyH_take (i := 29) (oi := { dst := some 71, op := Op.move (Operand.tmp 13), type := 26, pos := "law.go:29", after := #[{ on := 27, ground := Ground.guard }], guard := some (27, true) }) (v := (.int .i64 E)) rfl (by kernel_rfl) (by kernel_rfl) (by kernel_rfl) (fun _ _ _ h => h) (Or.inl ⟨by kernel_rfl, fun W hSW => by go_simp⟩) (Below.refl _ _) ?_
    simp only [Act.put, List.setIfInBounds_toArray, List.set_cons_zero, List.set_cons_succ]
    refine wpAnyH_take (i := 30) (oi := { dst := some 72, op := Op.binOp BinOp.eql 26 (Operand.tmp 70) (Operand.tmp 71) 26, type := 4, pos := "law.go:29", after := #[{ on := 28, ground := Ground.data }, { on := 29, ground := Ground.data }, { on := 27, ground := Ground.guard }], guard := some (27, true) }) (v := (.bool true)) rfl (by kernel_rfl) (by kernel_rfl) (by kernel_rfl) (fun _ _ _ h => h) (Or.inl ⟨by kernel_rfl, fun W hSW => by go_simp⟩) (Below.refl _ _) ?_
    simp only [Act.put, List.setIfInBounds_toArray, List.set_cons_zero, List.set_cons_succ]
    refine wpAnyH_take (i := 31) (oi := { dst := some 73, op := Op.pick (Operand.tmp 69) (Operand.tmp 72) (Operand.const (Value.bool false)), type := 4, pos := "law.go:29", after := #[{ on := 27, ground := Ground.data }, { on := 30, ground := Ground.data }], guard := none }) (v := (.bool true)) rfl (by kernel_rfl) (by kernel_rfl) (by kernel_rfl) (fun _ _ _ h => h) (Or.inl ⟨by kernel_rfl, fun W hSW => by go_simp⟩) (Below.refl _ _) ?_
    simp only [Act.put, List.setIfInBounds_toArray, List.set_cons_zero, List.set_cons_succ]
    refine wpAnyH_take (i := 32) (oi := { dst := some 14, op := Op.assign (Operand.tmp 73), type := 4, pos := "law.go:29", after := #[{ on := 31, ground := Ground.data }, { on := 27, ground := Ground.chain }, { on := 0, ground := Ground.phase }, { on := 1, ground := Ground.phase }, { on := 2, ground := Ground.phase }, { on := 3, ground := Ground.phase }, { on := 4, ground := Ground.phase }, { on := 5, ground := Ground.phase }, { on := 6, ground := Ground.phase }, { on := 7, ground := Ground.phase }, { on := 8, ground := Ground.phase }, { on := 9, ground := Ground.phase }, { on := 10, ground := Ground.phase }, { on := 11, ground := Ground.phase }, { on := 12, ground := Ground.phase }, { on := 13, ground := Ground.phase }, { on := 14, ground := Ground.phase }, { on := 15, ground := Ground.phase }, { on := 16, ground := Ground.phase }, { on := 17, ground := Ground.phase }, { on := 18, ground := Ground.phase }, { on := 19, ground := Ground.phase }, { on := 20, ground := Ground.phase }, { on := 21, ground := Ground.phase }, { on := 22, ground := Ground.phase }, { on := 23, ground := Ground.phase }, { on := 24, ground := Ground.phase }, { on := 25, ground := Ground.phase }, { on := 26, ground := Ground.phase }, { on := 27, ground := Ground.phase }, { on := 28, ground := Ground.phase }, { on := 29, ground := Ground.phase }, { on := 30, ground := Ground.phase }, { on := 31, ground := Ground.phase }], guard := none }) (v := (.bool true)) rfl (by kernel_rfl) (by kernel_rfl) (by kernel_rfl) (fun _ _ _ h => h) (Or.inl ⟨by kernel_rfl, fun W hSW => by go_simp⟩) (Below.refl _ _) ?_
    simp only [Act.put, List.setIfInBounds_toArray, List.set_cons_zero, List.set_cons_succ]
    refine wpAnyH_done (by kernel_rfl) ?_ _
    go_wp2_with (fail)
    go_meet
    case rel => exact ⟨rfl, F8⟩
  case rest =>
    obtain ⟨rfl, H12⟩ := hcut
    clear F4 HST HSA HSB
    have hn1 : n ≤ 131072 := by omega
    go_wp2_with (fail)
    go_loopw [16] (fun v16 wr => ∃ k : Nat, k ≤ n + 32 ∧ v16 = .int .i64 k ∧ Hid (FaP bs (txt bs s) A n A3 m3 A4 m4 w wr)) (fun v16 _ => n + 32 - (intOf v16).toNat)
    case atStart => exact ⟨0, by omega, rfl, H12⟩
    case round =>
      clear H12
      obtain ⟨k, hk, rfl, HF⟩ := hrel
      by_cases hk80 : k < n + 32
      · by_cases hkn : k < n
        · obtain ⟨b', o', hA, hlt, hcell⟩ := HR.out.2 (by omega)
          have hkx : k < bs.length := by rw [HR.out.1]; exact hkn
          obtain ⟨x, hx⟩ : ∃ x, bs[k]? = some x := ⟨_, List.getElem?_eq_getElem hkx⟩
          have hc1 := range_of_heap HF.out.blk k (.int .u8 (x.toNat : Int)) (own_key bs k x hx)
          have hc2 := (HF.out.bel.cell (p := ⟨b', o' + k, none⟩) hlt).trans (hcell k x hx)
          subst hA
          clear hx hkx hlt hcell
          go_upto_region 11 with (fail)
          try simp only [Act.put]
          refine wp_region_any (by kernel_rfl) ?_
          change wpAny _ _ _ _ _ _ _ (World.drew _)
          refine wpAny_of_held (S := fun W => W = wr.drew) _ _ _ _ ?_
          refine wpAnyH_take (i := 0) (oi := { dst := some 85, op := Op.move (Operand.tmp 16), type := 3, pos := "law.go:32", after := #[], guard := none }) (v := (.int .i64 k)) rfl (by kernel_rfl) (by kernel_rfl) (by kernel_rfl) (fun _ _ _ h => h) (Or.inl ⟨by kernel_rfl, fun W hSW => by subst hSW; go_simp⟩) rfl ?_
          simp only [Act.put, List.setIfInBounds_toArray, List.set_cons_zero, List.set_cons_succ]
          refine wpAnyH_take (i := 1) (oi := { dst := some 86, op := Op.move (Operand.tmp 0), type := 22, pos := "law.go:32", after := #[], guard := none }) (v := (.slice (some ⟨b', o', none⟩) n c)) rfl (by kernel_rfl) (by kernel_rfl) (by kernel_rfl) (fun _ _ _ h => h) (Or.inl ⟨by kernel_rfl, fun W hSW => by subst hSW; go_simp⟩) rfl ?_
          simp only [Act.put, List.setIfInBounds_toArray, List.set_cons_zero, List.set_cons_succ]
          refine wpAnyH_take (i := 2) (oi := { dst := some 87, op := Op.call { callee := Callee.builtin Builtin.len, args := #[Operand.tmp 86], argTypes := #[22] }, type := 3, pos := "law.go:32", after := #[{ on := 1, ground := Ground.data }], guard := none }) (v := (.int .i64 n)) rfl (by kernel_rfl) (by kernel_rfl) (by kernel_rfl) (fun _ _ _ h => h) (Or.inl ⟨by kernel_rfl, fun W hSW => by subst hSW; go_simp⟩) rfl ?_
          simp only [Act.put, List.setIfInBounds_toArray, List.set_cons_zero, List.set_cons_succ]
          refine wpAnyH_take (i := 3) (oi := { dst := some 88, op := Op.binOp BinOp.lss 3 (Operand.tmp 85) (Operand.tmp 87) 3, type := 4, pos := "law.go:32", after := #[{ on := 0, ground := Ground.data }, { on := 2, ground := Ground.data }], guard := none }) (v := (.bool true)) rfl (by kernel_rfl) (by kernel_rfl) (by kernel_rfl) (fun _ _ _ h => h) (Or.inl ⟨by kernel_rfl, fun W hSW => by subst hSW; go_simp⟩) rfl ?_
          simp only [Act.put, List.setIfInBounds_toArray, List.set_cons_zero, List.set_cons_succ]
          refine wpAnyH_take (i := 4) (oi := { dst := some 89, op := Op.move (Operand.tmp 88), type := 4, pos := "law.go:32", after := #[{ on := 3, ground := Ground.data }], guard := none }) (v := (.bool true)) rfl (by kernel_rfl) (by kernel_rfl) (by kernel_rfl) (fun _ _ _ h => h) (Or.inl ⟨by kernel_rfl, fun W hSW => by subst hSW; go_simp⟩) rfl ?_
          simp only [Act.put, List.setIfInBounds_toArray, List.set_cons_zero, List.set_cons_succ]
          refine wpAnyH_take (i := 5) (oi := { dst := some 90, op := Op.move (Operand.tmp 15), type := 22, pos := "law.go:32", after := #[{ on := 4, ground := Ground.guard }], guard := some (4, true) }) (v := (.slice (some ⟨w.heap.size, 0, none⟩) (n + 32) (n + 32))) rfl (by kernel_rfl) (by kernel_rfl) (by kernel_rfl) (fun _ _ _ h => h) (Or.inl ⟨by kernel_rfl, fun W hSW => by subst hSW; go_simp⟩) rfl ?_
          simp only [Act.put, List.setIfInBounds_toArray, List.set_cons_zero, List.set_cons_succ]
          refine wpAnyH_take (i := 6) (oi := { dst := some 91, op := Op.move (Operand.tmp 16), type := 3, pos := "law.go:32", after := #[{ on := 4, ground := Ground.guard }], guard := some (4, true) }) (v := (.int .i64 k)) rfl (by kernel_rfl) (by kernel_rfl) (by kernel_rfl) (fun _ _ _ h => h) (Or.inl ⟨by kernel_rfl, fun W hSW => by subst hSW; go_simp⟩) rfl ?_
          simp only [Act.put, List.setIfInBounds_toArray, List.set_cons_zero, List.set_cons_succ]
          refine wpAnyH_take (i := 7) (oi := { dst := some 92, op := Op.indexAddr 22 (Operand.tmp 90) (Operand.tmp 91), type := 0, pos := "law.go:32", after := #[{ on := 5, ground := Ground.data }, { on := 6, ground := Ground.data }, { on := 4, ground := Ground.guard }], guard := some (4, true) }) (v := (.pointer (some ⟨w.heap.size, k, none⟩))) rfl (by kernel_rfl) (by kernel_rfl) (by kernel_rfl) (fun _ _ _ h => h) (Or.inl ⟨by kernel_rfl, fun W hSW => by subst hSW; go_simp⟩) rfl ?_
          simp only [Act.put, List.setIfInBounds_toArray, List.set_cons_zero, List.set_cons_succ]
          refine wpAnyH_take (i := 8) (oi := { dst := some 93, op := Op.load 5 (Operand.tmp 92), type := 5, pos := "law.go:32", after := #[{ on := 7, ground := Ground.data }, { on := 4, ground := Ground.guard }], guard := some (4, true) }) (v := (.int .u8 (x.toNat : Int))) rfl (by kernel_rfl) (by kernel_rfl) (by kernel_rfl) (fun _ _ _ h => h) (Or.inl ⟨by kernel_rfl, fun W hSW => by subst hSW; go_simp⟩) rfl ?_
          simp only [Act.put, List.setIfInBounds_toArray, List.set_cons_zero, List.set_cons_succ]
          refine wpAnyH_take (i := 9) (oi := { dst := some 94, op := Op.move (Operand.tmp 0), type := 22, pos := "law.go:32", after := #[{ on := 4, ground := Ground.guard }], guard := some (4, true) }) (v := (.slice (some ⟨b', o', none⟩) n c)) rfl (by kernel_rfl) (by kernel_rfl) (by kernel_rfl) (fun _ _ _ h => h) (Or.inl ⟨by kernel_rfl, fun W hSW => by subst hSW; go_simp⟩) rfl ?_
          simp only [Act.put, List.setIfInBounds_toArray, List.set_cons_zero, List.set_cons_succ]
          refine wpAnyH_take (i := 10) (oi := { dst := some 95, op := Op.move (Operand.tmp 16), type := 3, pos := "law.go:32", after := #[{ on := 4, ground := Ground.guard }], guard := some (4, true) }) (v := (.int .i64 k)) rfl (by kernel_rfl) (by kernel_rfl) (by kernel_rfl) (fun _ _ _ h => h) (Or.inl ⟨by kernel_rfl, fun W hSW => by subst hSW; go_simp⟩) rfl ?_
          simp only [Act.put, List.setIfInBounds_toArray, List.set_cons_zero, List.set_cons_succ]
          refine wpAnyH_take (i := 11) (oi := { dst := some 96, op := Op.indexAddr 22 (Operand.tmp 94) (Operand.tmp 95), type := 0, pos := "law.go:32", after := #[{ on := 9, ground := Ground.data }, { on := 10, ground := Ground.data }, { on := 4, ground := Ground.guard }], guard := some (4, true) }) (v := (.pointer (some ⟨b', o' + k, none⟩))) rfl (by kernel_rfl) (by kernel_rfl) (by kernel_rfl) (fun _ _ _ h => h) (Or.inl ⟨by kernel_rfl, fun W hSW => by subst hSW; go_simp⟩) rfl ?_
          simp only [Act.put, List.setIfInBounds_toArray, List.set_cons_zero, List.set_cons_succ]
          refine wpAnyH_take (i := 12) (oi := { dst := some 97, op := Op.load 5 (Operand.tmp 96), type := 5, pos := "law.go:32", after := #[{ on := 11, ground := Ground.data }, { on := 4, ground := Ground.guard }], guard := some (4, true) }) (v := (.int .u8 (x.toNat : Int))) rfl (by kernel_rfl) (by kernel_rfl) (by kernel_rfl) (fun _ _ _ h => h) (Or.inl ⟨by kernel_rfl, fun W hSW => by subst hSW; go_simp⟩) rfl ?_
          simp only [Act.put, List.setIfInBounds_toArray, List.set_cons_zero, List.set_cons_succ]
          refine wpAnyH_take (i := 13) (oi := { dst := some 98, op := Op.binOp BinOp.neq 5 (Operand.tmp 93) (Operand.tmp 97) 5, type := 4, pos := "law.go:32", after := #[{ on := 8, ground := Ground.data }, { on := 12, ground := Ground.data }, { on := 4, ground := Ground.guard }], guard := some (4, true) }) (v := (.bool false)) rfl (by kernel_rfl) (by kernel_rfl) (by kernel_rfl) (fun _ _ _ h => h) (Or.inl ⟨by kernel_rfl, fun W hSW => by subst hSW; go_simp⟩) rfl ?_
          simp only [Act.put, List.setIfInBounds_toArray, List.set_cons_zero, List.set_cons_succ]
          refine wpAnyH_take (i := 14) (oi := { dst := some 99, op := Op.pick (Operand.tmp 89) (Operand.tmp 98) (Operand.const (Value.bool false)), type := 4, pos := "law.go:32", after := #[{ on := 4, ground := Ground.data }, { on := 13, ground := Ground.data }], guard := none }) (v := (.bool false)) rfl (by kernel_rfl) (by kernel_rfl) (by kernel_rfl) (fun _ _ _ h => h) (Or.inl ⟨by kernel_rfl, fun W hSW => by subst hSW; go_simp⟩) rfl ?_
          simp only [Act.put, List.setIfInBounds_toArray, List.set_cons_zero, List.set_cons_succ]
          refine wpAnyH_take (i := 15) (oi := { dst := some 100, op := Op.move (Operand.tmp 99), type := 4, pos := "law.go:32", after := #[{ on := 14, ground := Ground.data }, { on := 4, ground := Ground.chain }], guard := none }) (v := (.bool false)) rfl (by kernel_rfl) (by kernel_rfl) (by kernel_rfl) (fun _ _ _ h => h) (Or.inl ⟨by kernel_rfl, fun W hSW => by subst hSW; go_simp⟩) rfl ?_
          simp only [Act.put, List.setIfInBounds_toArray, List.set_cons_zero, List.set_cons_succ]
          refine wpAnyH_take (i := 16) (oi := { dst := some 101, op := Op.move (Operand.tmp 16), type := 3, pos := "law.go:32", after := #[{ on := 15, ground := Ground.guard }], guard := some (15, false) }) (v := (.int .i64 k)) rfl (by kernel_rfl) (by kernel_rfl) (by kernel_rfl) (fun _ _ _ h => h) (Or.inl ⟨by kernel_rfl, fun W hSW => by subst hSW; go_simp⟩) rfl ?_
          simp only [Act.put, List.setIfInBounds_toArray, List.set_cons_zero, List.set_cons_succ]
          refine wpAnyH_take (i := 17) (oi := { dst := some 102, op := Op.move (Operand.tmp 0), type := 22, pos := "law.go:32", after := #[{ on := 15, ground := Ground.guard }], guard := some (15, false) }) (v := (.slice (some ⟨b', o', none⟩) n c)) rfl (by kernel_rfl) (by kernel_rfl) (by kernel_rfl) (fun _ _ _ h => h) (Or.inl ⟨by kernel_rfl, fun W hSW => by subst hSW; go_simp⟩) rfl ?_
          simp only [Act.put, List.setIfInBounds_toArray, List.set_cons_zero, List.set_cons_succ]
          refine wpAnyH_take (i := 18) (oi := { dst := some 103, op := Op.call { callee := Callee.builtin Builtin.len, args := #[Operand.tmp 102], argTypes := #[22] }, type := 3, pos := "law.go:32", after := #[{ on := 17, ground := Ground.data }, { on := 15, ground := Ground.guard }], guard := some (15, false) }) (v := (.int .i64 n)) rfl (by kernel_rfl) (by kernel_rfl) (by kernel_rfl) (fun _ _ _ h => h) (Or.inl ⟨by kernel_rfl, fun W hSW => by subst hSW; go_simp⟩) rfl ?_
          simp only [Act.put, List.setIfInBounds_toArray, List.set_cons_zero, List.set_cons_succ]
          refine wpAnyH_take (i := 19) (oi := { dst := some 104, op := Op.binOp BinOp.geq 3 (Operand.tmp 101) (Operand.tmp 103) 3, type := 4, pos := "law.go:32", after := #[{ on := 16, ground := Ground.data }, { on := 18, ground := Ground.data }, { on := 15, ground := Ground.guard }], guard := some (15, false) }) (v := (.bool false)) rfl (by kernel_rfl) (by kernel_rfl) (by kernel_rfl) (fun _ _ _ h => h) (Or.inl ⟨by kernel_rfl, fun W hSW => by subst hSW; go_simp⟩) rfl ?_
          simp only [Act.put, List.setIfInBounds_toArray, List.set_cons_zero, List.set_cons_succ]
          refine wpAnyH_take (i := 20) (oi := { dst := some 105, op := Op.move (Operand.tmp 104), type := 4, pos := "law.go:32", after := #[{ on := 19, ground := Ground.data }, { on := 15, ground := Ground.chain }, { on := 15, ground := Ground.guard }], guard := some (15, false) }) (v := (.bool false)) rfl (by kernel_rfl) (by kernel_rfl) (by kernel_rfl) (fun _ _ _ h => h) (Or.inl ⟨by kernel_rfl, fun W hSW => by subst hSW; go_simp⟩) rfl ?_
          simp only [Act.put, List.setIfInBounds_toArray, List.set_cons_zero, List.set_cons_succ]
          refine wpAnyH_take (i := 21) (oi := { dst := some 106, op := Op.move (Operand.tmp 15), type := 22, pos := "law.go:32", after := #[{ on := 20, ground := Ground.guard }], guard := some (20, true) }) (v := undef) rfl (by kernel_rfl) (by kernel_rfl) (by kernel_rfl) (fun _ _ _ h => h) (Or.inr ⟨by kernel_rfl, rfl⟩) rfl ?_
          simp only [Act.put, List.setIfInBounds_toArray, List.set_cons_zero, List.set_cons_succ]
          refine wpAnyH_take (i := 22) (oi := { dst := some 107, op := Op.move (Operand.tmp 16), type := 3, pos := "law.go:32", after := #[{ on := 20, ground := Ground.guard }], guard := some (20, true) }) (v := undef) rfl (by kernel_rfl) (by kernel_rfl) (by kernel_rfl) (fun _ _ _ h => h) (Or.inr ⟨by kernel_rfl, rfl⟩) rfl ?_
          simp only [Act.put, List.setIfInBounds_toArray, List.set_cons_zero, List.set_cons_succ]
          refine wpAnyH_take (i := 23) (oi := { dst := some 108, op := Op.indexAddr 22 (Operand.tmp 106) (Operand.tmp 107), type := 0, pos := "law.go:32", after := #[{ on := 21, ground := Ground.data }, { on := 22, ground := Ground.data }, { on := 20, ground := Ground.guard }], guard := some (20, true) }) (v := undef) rfl (by kernel_rfl) (by kernel_rfl) (by kernel_rfl) (fun _ _ _ h => h) (Or.inr ⟨by kernel_rfl, rfl⟩) rfl ?_
          simp only [Act.put, List.setIfInBounds_toArray, List.set_cons_zero, List.set_cons_succ]
          refine wpAnyH_take (i := 24) (oi := { dst := some 109, op := Op.load 5 (Operand.tmp 108), type := 5, pos := "law.go:32", after := #[{ on := 23, ground := Ground.data }, { on := 20, ground := Ground.guard }], guard := some (20, true) }) (v := undef) rfl (by kernel_rfl) (by kernel_rfl) (by kernel_rfl) (fun _ _ _ h => h) (Or.inr ⟨by kernel_rfl, rfl⟩) rfl ?_
          simp only [Act.put, List.setIfInBounds_toArray, List.set_cons_zero, List.set_cons_succ]
          refine wpAnyH_take (i := 25) (oi := { dst := some 110, op := Op.binOp BinOp.neq 5 (Operand.tmp 109) (Operand.const (Value.int IntKind.u8 0)) 5, type := 4, pos := "law.go:32", after := #[{ on := 24, ground := Ground.data }, { on := 20, ground := Ground.guard }], guard := some (20, true) }) (v := undef) rfl (by kernel_rfl) (by kernel_rfl) (by kernel_rfl) (fun _ _ _ h => h) (Or.inr ⟨by kernel_rfl, rfl⟩) rfl ?_
          simp only [Act.put, List.setIfInBounds_toArray, List.set_cons_zero, List.set_cons_succ]
          refine wpAnyH_take (i := 26) (oi := { dst := some 111, op := Op.pick (Operand.tmp 105) (Operand.tmp 110) (Operand.const (Value.bool false)), type := 4, pos := "law.go:32", after := #[{ on := 20, ground := Ground.data }, { on := 25, ground := Ground.data }, { on := 15, ground := Ground.guard }], guard := some (15, false) }) (v := (.bool false)) rfl (by kernel_rfl) (by kernel_rfl) (by kernel_rfl) (fun _ _ _ h => h) (Or.inl ⟨by kernel_rfl, fun W hSW => by subst hSW; go_simp⟩) rfl ?_
          simp only [Act.put, List.setIfInBounds_toArray, List.set_cons_zero, List.set_cons_succ]
          refine wpAnyH_take (i := 27) (oi := { dst := some 112, op := Op.pick (Operand.tmp 100) (Operand.const (Value.bool true)) (Operand.tmp 111), type := 4, pos := "law.go:32", after := #[{ on := 15, ground := Ground.data }, { on := 26, ground := Ground.data }], guard := none }) (v := (.bool false)) rfl (by kernel_rfl) (by kernel_rfl) (by kernel_rfl) (fun _ _ _ h => h) (Or.inl ⟨by kernel_rfl, fun W hSW => by subst hSW; go_simp⟩) rfl ?_
          simp only [Act.put, List.setIfInBounds_toArray, List.set_cons_zero, List.set_cons_succ]
          refine wpAnyH_done (by kernel_rfl) ?_ _
          go_wp2_with (fail)
          go_roundw
          case measure => simp [intOf]; omega
          case rel => exact ⟨k + 1, by omega, by go_num, Lib.hid (HF.out.next (below_drew1 wr))⟩
        · have hnk : n ≤ k := by omega
          have hc1 := range_of_heap HF.out.blk k (.int .u8 0) (own_nought bs k (by rw [HR.out.1]; exact hnk) (by rw [HR.out.1]; exact hk80))
          go_upto_region 11 with (fail)
          try simp only [Act.put]
          refine wp_region_any (by kernel_rfl) ?_
          change wpAny _ _ _ _ _ _ _ (World.drew _)
          refine wpAny_of_held (S := fun W => W = wr.drew) _ _ _ _ ?_
          refine wpAnyH_take (i := 0) (oi := { dst := some 85, op := Op.move (Operand.tmp 16), type := 3, pos := "law.go:32", after := #[], guard := none }) (v := (.int .i64 k)) rfl (by kernel_rfl) (by kernel_rfl) (by kernel_rfl) (fun _ _ _ h => h) (Or.inl ⟨by kernel_rfl, fun W hSW => by subst hSW; go_simp⟩) rfl ?_
          simp only [Act.put, List.setIfInBounds_toArray, List.set_cons_zero, List.set_cons_succ]
          refine wpAnyH_take (i := 1) (oi := { dst := some 86, op := Op.move (Operand.tmp 0), type := 22, pos := "law.go:32", after := #[], guard := none }) (v := (.slice A n c)) rfl (by kernel_rfl) (by kernel_rfl) (by kernel_rfl) (fun _ _ _ h => h) (Or.inl ⟨by kernel_rfl, fun W hSW => by subst hSW; go_simp⟩) rfl ?_
          simp only [Act.put, List.setIfInBounds_toArray, List.set_cons_zero, List.set_cons_succ]
          refine wpAnyH_take (i := 2) (oi := { dst := some 87, op := Op.call { callee := Callee.builtin Builtin.len, args := #[Operand.tmp 86], argTypes := #[22] }, type := 3, pos := "law.go:32", after := #[{ on := 1, ground := Ground.data }], guard := none }) (v := (.int .i64 n)) rfl (by kernel_rfl) (by kernel_rfl) (by kernel_rfl) (fun _ _ _ h => h) (Or.inl ⟨by kernel_rfl, fun W hSW => by subst hSW; go_simp⟩) rfl ?_
          simp only [Act.put, List.setIfInBounds_toArray, List.set_cons_zero, List.set_cons_succ]
          refine wpAnyH_take (i := 3) (oi := { dst := some 88, op := Op.binOp BinOp.lss 3 (Operand.tmp 85) (Operand.tmp 87) 3, type := 4, pos := "law.go:32", after := #[{ on := 0, ground := Ground.data }, { on := 2, ground := Ground.data }], guard := none }) (v := (.bool false)) rfl (by kernel_rfl) (by kernel_rfl) (by kernel_rfl) (fun _ _ _ h => h) (Or.inl ⟨by kernel_rfl, fun W hSW => by subst hSW; go_simp⟩) rfl ?_
          simp only [Act.put, List.setIfInBounds_toArray, List.set_cons_zero, List.set_cons_succ]
          refine wpAnyH_take (i := 4) (oi := { dst := some 89, op := Op.move (Operand.tmp 88), type := 4, pos := "law.go:32", after := #[{ on := 3, ground := Ground.data }], guard := none }) (v := (.bool false)) rfl (by kernel_rfl) (by kernel_rfl) (by kernel_rfl) (fun _ _ _ h => h) (Or.inl ⟨by kernel_rfl, fun W hSW => by subst hSW; go_simp⟩) rfl ?_
          simp only [Act.put, List.setIfInBounds_toArray, List.set_cons_zero, List.set_cons_succ]
          refine wpAnyH_take (i := 5) (oi := { dst := some 90, op := Op.move (Operand.tmp 15), type := 22, pos := "law.go:32", after := #[{ on := 4, ground := Ground.guard }], guard := some (4, true) }) (v := undef) rfl (by kernel_rfl) (by kernel_rfl) (by kernel_rfl) (fun _ _ _ h => h) (Or.inr ⟨by kernel_rfl, rfl⟩) rfl ?_
          simp only [Act.put, List.setIfInBounds_toArray, List.set_cons_zero, List.set_cons_succ]
          refine wpAnyH_take (i := 6) (oi := { dst := some 91, op := Op.move (Operand.tmp 16), type := 3, pos := "law.go:32", after := #[{ on := 4, ground := Ground.guard }], guard := some (4, true) }) (v := undef) rfl (by kernel_rfl) (by kernel_rfl) (by kernel_rfl) (fun _ _ _ h => h) (Or.inr ⟨by kernel_rfl, rfl⟩) rfl ?_
          simp only [Act.put, List.setIfInBounds_toArray, List.set_cons_zero, List.set_cons_succ]
          refine wpAnyH_take (i := 7) (oi := { dst := some 92, op := Op.indexAddr 22 (Operand.tmp 90) (Operand.tmp 91), type := 0, pos := "law.go:32", after := #[{ on := 5, ground := Ground.data }, { on := 6, ground := Ground.data }, { on := 4, ground := Ground.guard }], guard := some (4, true) }) (v := undef) rfl (by kernel_rfl) (by kernel_rfl) (by kernel_rfl) (fun _ _ _ h => h) (Or.inr ⟨by kernel_rfl, rfl⟩) rfl ?_
          simp only [Act.put, List.setIfInBounds_toArray, List.set_cons_zero, List.set_cons_succ]
          refine wpAnyH_take (i := 8) (oi := { dst := some 93, op := Op.load 5 (Operand.tmp 92), type := 5, pos := "law.go:32", after := #[{ on := 7, ground := Ground.data }, { on := 4, ground := Ground.guard }], guard := some (4, true) }) (v := undef) rfl (by kernel_rfl) (by kernel_rfl) (by kernel_rfl) (fun _ _ _ h => h) (Or.inr ⟨by kernel_rfl, rfl⟩) rfl ?_
          simp only [Act.put, List.setIfInBounds_toArray, List.set_cons_zero, List.set_cons_succ]
          refine wpAnyH_take (i := 9) (oi := { dst := some 94, op := Op.move (Operand.tmp 0), type := 22, pos := "law.go:32", after := #[{ on := 4, ground := Ground.guard }], guard := some (4, true) }) (v := undef) rfl (by kernel_rfl) (by kernel_rfl) (by kernel_rfl) (fun _ _ _ h => h) (Or.inr ⟨by kernel_rfl, rfl⟩) rfl ?_
          simp only [Act.put, List.setIfInBounds_toArray, List.set_cons_zero, List.set_cons_succ]
          refine wpAnyH_take (i := 10) (oi := { dst := some 95, op := Op.move (Operand.tmp 16), type := 3, pos := "law.go:32", after := #[{ on := 4, ground := Ground.guard }], guard := some (4, true) }) (v := undef) rfl (by kernel_rfl) (by kernel_rfl) (by kernel_rfl) (fun _ _ _ h => h) (Or.inr ⟨by kernel_rfl, rfl⟩) rfl ?_
          simp only [Act.put, List.setIfInBounds_toArray, List.set_cons_zero, List.set_cons_succ]
          refine wpAnyH_take (i := 11) (oi := { dst := some 96, op := Op.indexAddr 22 (Operand.tmp 94) (Operand.tmp 95), type := 0, pos := "law.go:32", after := #[{ on := 9, ground := Ground.data }, { on := 10, ground := Ground.data }, { on := 4, ground := Ground.guard }], guard := some (4, true) }) (v := undef) rfl (by kernel_rfl) (by kernel_rfl) (by kernel_rfl) (fun _ _ _ h => h) (Or.inr ⟨by kernel_rfl, rfl⟩) rfl ?_
          simp only [Act.put, List.setIfInBounds_toArray, List.set_cons_zero, List.set_cons_succ]
          refine wpAnyH_take (i := 12) (oi := { dst := some 97, op := Op.load 5 (Operand.tmp 96), type := 5, pos := "law.go:32", after := #[{ on := 11, ground := Ground.data }, { on := 4, ground := Ground.guard }], guard := some (4, true) }) (v := undef) rfl (by kernel_rfl) (by kernel_rfl) (by kernel_rfl) (fun _ _ _ h => h) (Or.inr ⟨by kernel_rfl, rfl⟩) rfl ?_
          simp only [Act.put, List.setIfInBounds_toArray, List.set_cons_zero, List.set_cons_succ]
          refine wpAnyH_take (i := 13) (oi := { dst := some 98, op := Op.binOp BinOp.neq 5 (Operand.tmp 93) (Operand.tmp 97) 5, type := 4, pos := "law.go:32", after := #[{ on := 8, ground := Ground.data }, { on := 12, ground := Ground.data }, { on := 4, ground := Ground.guard }], guard := some (4, true) }) (v := undef) rfl (by kernel_rfl) (by kernel_rfl) (by kernel_rfl) (fun _ _ _ h => h) (Or.inr ⟨by kernel_rfl, rfl⟩) rfl ?_
          simp only [Act.put, List.setIfInBounds_toArray, List.set_cons_zero, List.set_cons_succ]
          refine wpAnyH_take (i := 14) (oi := { dst := some 99, op := Op.pick (Operand.tmp 89) (Operand.tmp 98) (Operand.const (Value.bool false)), type := 4, pos := "law.go:32", after := #[{ on := 4, ground := Ground.data }, { on := 13, ground := Ground.data }], guard := none }) (v := (.bool false)) rfl (by kernel_rfl) (by kernel_rfl) (by kernel_rfl) (fun _ _ _ h => h) (Or.inl ⟨by kernel_rfl, fun W hSW => by subst hSW; go_simp⟩) rfl ?_
          simp only [Act.put, List.setIfInBounds_toArray, List.set_cons_zero, List.set_cons_succ]
          refine wpAnyH_take (i := 15) (oi := { dst := some 100, op := Op.move (Operand.tmp 99), type := 4, pos := "law.go:32", after := #[{ on := 14, ground := Ground.data }, { on := 4, ground := Ground.chain }], guard := none }) (v := (.bool false)) rfl (by kernel_rfl) (by kernel_rfl) (by kernel_rfl) (fun _ _ _ h => h) (Or.inl ⟨by kernel_rfl, fun W hSW => by subst hSW; go_simp⟩) rfl ?_
          simp only [Act.put, List.setIfInBounds_toArray, List.set_cons_zero, List.set_cons_succ]
          refine wpAnyH_take (i := 16) (oi := { dst := some 101, op := Op.move (Operand.tmp 16), type := 3, pos := "law.go:32", after := #[{ on := 15, ground := Ground.guard }], guard := some (15, false) }) (v := (.int .i64 k)) rfl (by kernel_rfl) (by kernel_rfl) (by kernel_rfl) (fun _ _ _ h => h) (Or.inl ⟨by kernel_rfl, fun W hSW => by subst hSW; go_simp⟩) rfl ?_
          simp only [Act.put, List.setIfInBounds_toArray, List.set_cons_zero, List.set_cons_succ]
          refine wpAnyH_take (i := 17) (oi := { dst := some 102, op := Op.move (Operand.tmp 0), type := 22, pos := "law.go:32", after := #[{ on := 15, ground := Ground.guard }], guard := some (15, false) }) (v := (.slice A n c)) rfl (by kernel_rfl) (by kernel_rfl) (by kernel_rfl) (fun _ _ _ h => h) (Or.inl ⟨by kernel_rfl, fun W hSW => by subst hSW; go_simp⟩) rfl ?_
          simp only [Act.put, List.setIfInBounds_toArray, List.set_cons_zero, List.set_cons_succ]
          refine wpAnyH_take (i := 18) (oi := { dst := some 103, op := Op.call { callee := Callee.builtin Builtin.len, args := #[Operand.tmp 102], argTypes := #[22] }, type := 3, pos := "law.go:32", after := #[{ on := 17, ground := Ground.data }, { on := 15, ground := Ground.guard }], guard := some (15, false) }) (v := (.int .i64 n)) rfl (by kernel_rfl) (by kernel_rfl) (by kernel_rfl) (fun _ _ _ h => h) (Or.inl ⟨by kernel_rfl, fun W hSW => by subst hSW; go_simp⟩) rfl ?_
          simp only [Act.put, List.setIfInBounds_toArray, List.set_cons_zero, List.set_cons_succ]
          refine wpAnyH_take (i := 19) (oi := { dst := some 104, op := Op.binOp BinOp.geq 3 (Operand.tmp 101) (Operand.tmp 103) 3, type := 4, pos := "law.go:32", after := #[{ on := 16, ground := Ground.data }, { on := 18, ground := Ground.data }, { on := 15, ground := Ground.guard }], guard := some (15, false) }) (v := (.bool true)) rfl (by kernel_rfl) (by kernel_rfl) (by kernel_rfl) (fun _ _ _ h => h) (Or.inl ⟨by kernel_rfl, fun W hSW => by subst hSW; go_simp⟩) rfl ?_
          simp only [Act.put, List.setIfInBounds_toArray, List.set_cons_zero, List.set_cons_succ]
          refine wpAnyH_take (i := 20) (oi := { dst := some 105, op := Op.move (Operand.tmp 104), type := 4, pos := "law.go:32", after := #[{ on := 19, ground := Ground.data }, { on := 15, ground := Ground.chain }, { on := 15, ground := Ground.guard }], guard := some (15, false) }) (v := (.bool true)) rfl (by kernel_rfl) (by kernel_rfl) (by kernel_rfl) (fun _ _ _ h => h) (Or.inl ⟨by kernel_rfl, fun W hSW => by subst hSW; go_simp⟩) rfl ?_
          simp only [Act.put, List.setIfInBounds_toArray, List.set_cons_zero, List.set_cons_succ]
          refine wpAnyH_take (i := 21) (oi := { dst := some 106, op := Op.move (Operand.tmp 15), type := 22, pos := "law.go:32", after := #[{ on := 20, ground := Ground.guard }], guard := some (20, true) }) (v := (.slice (some ⟨w.heap.size, 0, none⟩) (n + 32) (n + 32))) rfl (by kernel_rfl) (by kernel_rfl) (by kernel_rfl) (fun _ _ _ h => h) (Or.inl ⟨by kernel_rfl, fun W hSW => by subst hSW; go_simp⟩) rfl ?_
          simp only [Act.put, List.setIfInBounds_toArray, List.set_cons_zero, List.set_cons_succ]
          refine wpAnyH_take (i := 22) (oi := { dst := some 107, op := Op.move (Operand.tmp 16), type := 3, pos := "law.go:32", after := #[{ on := 20, ground := Ground.guard }], guard := some (20, true) }) (v := (.int .i64 k)) rfl (by kernel_rfl) (by kernel_rfl) (by kernel_rfl) (fun _ _ _ h => h) (Or.inl ⟨by kernel_rfl, fun W hSW => by subst hSW; go_simp⟩) rfl ?_
          simp only [Act.put, List.setIfInBounds_toArray, List.set_cons_zero, List.set_cons_succ]
          refine wpAnyH_take (i := 23) (oi := { dst := some 108, op := Op.indexAddr 22 (Operand.tmp 106) (Operand.tmp 107), type := 0, pos := "law.go:32", after := #[{ on := 21, ground := Ground.data }, { on := 22, ground := Ground.data }, { on := 20, ground := Ground.guard }], guard := some (20, true) }) (v := (.pointer (some ⟨w.heap.size, k, none⟩))) rfl (by kernel_rfl) (by kernel_rfl) (by kernel_rfl) (fun _ _ _ h => h) (Or.inl ⟨by kernel_rfl, fun W hSW => by subst hSW; go_simp⟩) rfl ?_
          simp only [Act.put, List.setIfInBounds_toArray, List.set_cons_zero, List.set_cons_succ]
          refine wpAnyH_take (i := 24) (oi := { dst := some 109, op := Op.load 5 (Operand.tmp 108), type := 5, pos := "law.go:32", after := #[{ on := 23, ground := Ground.data }, { on := 20, ground := Ground.guard }], guard := some (20, true) }) (v := (.int .u8 0)) rfl (by kernel_rfl) (by kernel_rfl) (by kernel_rfl) (fun _ _ _ h => h) (Or.inl ⟨by kernel_rfl, fun W hSW => by subst hSW; go_simp⟩) rfl ?_
          simp only [Act.put, List.setIfInBounds_toArray, List.set_cons_zero, List.set_cons_succ]
          refine wpAnyH_take (i := 25) (oi := { dst := some 110, op := Op.binOp BinOp.neq 5 (Operand.tmp 109) (Operand.const (Value.int IntKind.u8 0)) 5, type := 4, pos := "law.go:32", after := #[{ on := 24, ground := Ground.data }, { on := 20, ground := Ground.guard }], guard := some (20, true) }) (v := (.bool false)) rfl (by kernel_rfl) (by kernel_rfl) (by kernel_rfl) (fun _ _ _ h => h) (Or.inl ⟨by kernel_rfl, fun W hSW => by subst hSW; go_simp⟩) rfl ?_
          simp only [Act.put, List.setIfInBounds_toArray, List.set_cons_zero, List.set_cons_succ]
          refine wpAnyH_take (i := 26) (oi := { dst := some 111, op := Op.pick (Operand.tmp 105) (Operand.tmp 110) (Operand.const (Value.bool false)), type := 4, pos := "law.go:32", after := #[{ on := 20, ground := Ground.data }, { on := 25, ground := Ground.data }, { on := 15, ground := Ground.guard }], guard := some (15, false) }) (v := (.bool false)) rfl (by kernel_rfl) (by kernel_rfl) (by kernel_rfl) (fun _ _ _ h => h) (Or.inl ⟨by kernel_rfl, fun W hSW => by subst hSW; go_simp⟩) rfl ?_
          simp only [Act.put, List.setIfInBounds_toArray, List.set_cons_zero, List.set_cons_succ]
          refine wpAnyH_take (i := 27) (oi := { dst := some 112, op := Op.pick (Operand.tmp 100) (Operand.const (Value.bool true)) (Operand.tmp 111), type := 4, pos := "law.go:32", after := #[{ on := 15, ground := Ground.data }, { on := 26, ground := Ground.data }], guard := none }) (v := (.bool false)) rfl (by kernel_rfl) (by kernel_rfl) (by kernel_rfl) (fun _ _ _ h => h) (Or.inl ⟨by kernel_rfl, fun W hSW => by subst hSW; go_simp⟩) rfl ?_
          simp only [Act.put, List.setIfInBounds_toArray, List.set_cons_zero, List.set_cons_succ]
          refine wpAnyH_done (by kernel_rfl) ?_ _
          go_wp2_with (fail)
          go_roundw
          case measure => simp [intOf]; omega
          case rel => exact ⟨k + 1, by omega, by go_num, Lib.hid (HF.out.next (below_drew1 wr))⟩
      · obtain rfl : k = n + 32 := by omega
        go_wp2_with (first
          | (go_at_call 9; refine (works_any wr).mono ?_; rintro E w7 ⟨rfl, hb7⟩; have HB7 := Lib.hid (HF.out.bel.trans (hb7.mono HF.out.bel.size)); clear hb7))
        go_ret
        exact ⟨rfl, HB7.out⟩
end Go.Proofs.Ythnmmhjnfhmleaa
