/-
  What is proved: the walk of TagPlays for whatever comes in. Conditions as stated.
-/
import Derived.Test.YtfmmldpemdodkaaDoorWd
import Derived.Test.YtfmmldpemdodkaaDoorRu
import Derived.Test.YtfmmldpemdodkaaDoorHd
import Derived.Test.YtfmmldpemdodkaaDoorOc
namespace Go.Proofs.YtfmmldpemdodkaaDoor
open Go.RowKit

/-- What is read through all of the law. -/
structure FaAt (key b : List UInt8) (A : Option Addr) (n c : Nat) (A' : Option Addr) (n' c' : Nat) (A1 : Option Addr) (c1 : Nat) (w wr : World) : Prop where
  bel : Below w.heap.size w wr
  own : Rd (fun _ => True) wr (some ⟨w.heap.size, 0, none⟩) n key
  blk : wr.heap[w.heap.size]? = some (.cells (u8s (key ++ List.replicate 80 0)).toArray 5 (0, 0))
  it : Rd (fun _ => True) wr A1 n' b
  isl : Sl A1 n' c1
  lt : w.heap.size < wr.heap.size
theorem FaAt.next {key b : List UInt8} {A : Option Addr} {n c : Nat} {A' : Option Addr} {n' c' : Nat} {A1 : Option Addr} {c1 : Nat} {w wr w' : World} (H : FaAt key b A n c A' n' c' A1 c1 w wr) (hb : Below wr.heap.size wr w') : FaAt key b A n c A' n' c' A1 c1 w w' :=
  ⟨H.bel.trans (hb.mono H.bel.size), H.own.below hb (fun _ h _ => h), (hb.block _ H.lt).trans H.blk, H.it.below hb (fun _ h _ => h), H.isl, Nat.lt_of_lt_of_le H.lt hb.size⟩

theorem own_key (key : List UInt8) (j : Nat) (u : UInt8) (hu : key[j]? = some u) : (u8s (key ++ List.replicate 80 0)).toArray[j]? = some (.int .u8 (u.toNat : Int)) := by
  have hj : j < key.length := (List.getElem?_eq_some_iff.1 hu).1
  rw [List.getElem?_toArray, u8s_append, List.getElem?_append_left (by rw [u8s_length]; exact hj), u8s, List.getElem?_map, hu]
  rfl
theorem splice_room (x : List UInt8) (k : Nat) : splice (List.replicate (x.length + k) (Value.int .u8 0)) 0 (u8s x) = u8s (x ++ List.replicate k 0) := by
  unfold splice
  rw [List.take_zero, List.nil_append, u8s_length, Nat.zero_add, u8s_append]
  congr 1
  rw [List.drop_replicate, Nat.add_sub_cancel_left]
  simp only [u8s, List.map_replicate]
  rfl

set_option maxHeartbeats 8000000 in
set_option maxRecDepth 100000 in
theorem tagPlays_by (key b dh df rk ck : List UInt8) (A : Option Addr) (n c : Nat) (A' : Option Addr) (n' c' : Nat) (i : Int) (nn : Nat) (w : World) (hn : n + n' ≤ 4096) (hdh : dh.length = 32) (hdf : df.length = 32)
    (hr : Rd (fun _ => True) w A n key) (hs : Sl A n c) (hr' : Rd (fun _ => True) w A' n' b) (hs' : Sl A' n' c') (hW : Works) (hk : KIs w) (h0 : 0 < w.heap.size)
    (O1 : ∀ (A1 : Option Addr) (c1 : Nat) (wx : World), FaAt key b A n c A' n' c' A1 c1 w wx → Calls Tryd.prog 9 #[.slice (some ⟨w.heap.size, 0, none⟩) n (n + 80), .slice A1 n' c1] wx fun E w' => E = .returned (.agg (u8s dh).toArray) ∧ Below wx.heap.size wx w')
    (O2 : ∀ (A1 : Option Addr) (c1 : Nat) (wx : World), FaAt key b A n c A' n' c' A1 c1 w wx → Calls Tryd.prog 10 #[.slice A n c, .slice A' n' c'] wx fun E w' => E = .returned (.agg (u8s dh).toArray) ∧ Below wx.heap.size wx w')
    (R1 : ∀ wx : World, KIs wx → 0 < wx.heap.size → Calls Tryd.prog 11 #[.int .i64 i] wx fun E w' => ∃ A c, E = .returned (.slice A rk.length c) ∧ Hid (Rd (fun _ => True) w' A rk.length rk) ∧ Below wx.heap.size wx w')
    (R2 : ∀ wx : World, KIs wx → 0 < wx.heap.size → Calls Tryd.prog 12 #[.int .i64 i] wx fun E w' => ∃ A c, E = .returned (.slice A rk.length c) ∧ Hid (Rd (fun _ => True) w' A rk.length rk) ∧ Below wx.heap.size wx w')
    (C1 : ∀ wx : World, KIs wx → 0 < wx.heap.size → Calls Tryd.prog 13 #[.int .i64 i] wx fun E w' => ∃ A c, E = .returned (.slice A ck.length c) ∧ Hid (Rd (fun _ => True) w' A ck.length ck) ∧ Below wx.heap.size wx w')
    (C2 : ∀ wx : World, KIs wx → 0 < wx.heap.size → Calls Tryd.prog 14 #[.int .i64 i] wx fun E w' => ∃ A c, E = .returned (.slice A ck.length c) ∧ Hid (Rd (fun _ => True) w' A ck.length ck) ∧ Below wx.heap.size wx w')
    (N1 : ∀ (A1 : Option Addr) (c1 : Nat) (wx : World), FaAt key b A n c A' n' c' A1 c1 w wx → Calls Tryd.prog 15 #[.int .i64 i, .int .u64 nn, .slice A1 n' c1] wx fun E w' => E = .returned (.agg (u8s df).toArray) ∧ Below wx.heap.size wx w')
    (N2 : ∀ (A1 : Option Addr) (c1 : Nat) (wx : World), FaAt key b A n c A' n' c' A1 c1 w wx → Calls Tryd.prog 16 #[.int .i64 i, .int .u64 nn, .slice A' n' c'] wx fun E w' => E = .returned (.agg (u8s df).toArray) ∧ Below wx.heap.size wx w') :
    Calls Tryd.prog 3 #[.slice A n c, .slice A' n' c', .int .i64 i, .int .u64 nn] w fun E w' => E = .returned (.bool true) ∧ Below w.heap.size w w' := by
  have HK := Lib.hid hk
  have HW := Lib.hid hW
  have HR := Lib.hid hr
  have HS := Lib.hid hs
  have HR' := Lib.hid hr'
  have HS' := Lib.hid hs'
  have O1' := Lib.hid O1
  have O2' := Lib.hid O2
  have R1' := Lib.hid R1
  have R2' := Lib.hid R2
  have C1' := Lib.hid C1
  have C2' := Lib.hid C2
  have N1' := Lib.hid N1
  have N2' := Lib.hid N2
  have heq := eq_bytes dh hdh
  have heqf := eq_bytes df hdf
  have hgd := Tryd.guard25
  clear hk hW hr hs hr' hs' O1 O2 R1 R2 C1 C2 N1 N2 hdh hdf
  go_enter Tryd.func3, Tryd.ntmps3
  go_upto_region 5 with (first
    | (at_make; go_must (refine wpList_make_lc _ rfl _ _ rfl _ _ 0 (n + 80) rfl rfl (by omega) (by omega) (by omega) (by omega) ?_); intro w1 hw1 hb1 hs1)
    | (at_builtin; refine wpList_append_into (w0 := w) rfl (.tmp 24) (.tmp 25) rfl w.heap.size (n + 80) n c A key rfl rfl hw1 (HR.out.below hb1 (fun _ h _ => h)) HS.out hb1 (by omega) (by omega) ?_; intro w2 hw2 hb2 hs2; have HB2 : Hid (Below w.heap.size w w2 ∧ w2.heap[w.heap.size]? = some (.cells (u8s (key ++ List.replicate 80 0)).toArray 5 (0, 0)) ∧ w.heap.size < w2.heap.size) := Lib.hid ⟨hb2, by rw [← splice_room, HR.out.1]; exact hw2.out, by omega⟩; clear hw1 hw2 hb1 hb2 hs1 hs2)
    | (at_builtin; refine wpList_append_rd (w0 := w2) rfl (.tmp 27) (.tmp 28) rfl w2.heap.size 0 n' c' _ A' [] b rfl rfl (own_at w2 w2 (Nat.le_refl _)) ((HR'.out.below HB2.out.1 (fun _ h _ => h)).below ((Below.refl _ _).alloc (Nat.le_refl _) _) (fun _ h _ => h)) HS'.out ((Below.refl _ _).alloc (Nat.le_refl _) _) (by simp) (by omega) ?_; intro A1 c1 w3 h3 hb3; rw [Nat.zero_add] at h3 ⊢; rw [List.nil_append] at h3; have F3 : Hid (FaAt key b A n c A' n' c' A1 c1 w w3) := Lib.hid ⟨HB2.out.1.trans (hb3.mono HB2.out.1.size), ⟨HR.out.1, fun _ => ⟨_, 0, rfl, Nat.lt_of_lt_of_le HB2.out.2.2 hb3.size, trivial, fun j u hu => by rw [Nat.zero_add, cell_of_row _ _ j _ 5 (0, 0) ((hb3.block _ HB2.out.2.2).trans HB2.out.2.1)]; exact own_key key j u hu⟩⟩, (hb3.block _ HB2.out.2.2).trans HB2.out.2.1, (Rd.of_own h3.out.1).mono fun _ _ _ => trivial, h3.out.2, Nat.lt_of_lt_of_le HB2.out.2.2 hb3.size⟩; clear h3 hb3 HB2)
    | fail)
  try simp only [Act.put]
  go_cut [11] from 14 (fun s11 wx => s11 = .bool true ∧ Hid (FaAt key b A n c A' n' c' A1 c1 w wx))
  case first =>
    have FwD : Hid (FaAt key b A n c A' n' c' A1 c1 w (w3.drewN 1)) := Lib.hid (F3.out.next (below_drewN (Below.refl _ _) 1))
    obtain ⟨Fa, hFe⟩ : ∃ Fa : World → Prop, Fa = FaAt key b A n c A' n' c' A1 c1 w := ⟨_, rfl⟩
    have hFa : Hid (∀ wa wb : World, Fa wa → Below wa.heap.size wa wb → Fa wb) := Lib.hid fun wa wb h hb => by rw [hFe] at h ⊢; exact h.next hb
    have hKa : Hid (∀ wa : World, Fa wa → KIs wa ∧ 0 < wa.heap.size) := Lib.hid fun wa h => by rw [hFe] at h; exact ⟨HK.out.below h.bel h0, Nat.lt_of_lt_of_le h0 h.bel.size⟩
    have OA : Hid (∀ wx : World, Fa wx → Calls Tryd.prog 9 #[.slice (some ⟨w.heap.size, 0, none⟩) n (n + 80), .slice A1 n' c1] wx fun E w' => E = .returned (.agg (u8s dh).toArray) ∧ Below wx.heap.size wx w') := Lib.hid fun wx h => O1'.out A1 c1 wx (by rw [hFe] at h; exact h)
    have OB : Hid (∀ wx : World, Fa wx → Calls Tryd.prog 10 #[.slice A n c, .slice A' n' c'] wx fun E w' => E = .returned (.agg (u8s dh).toArray) ∧ Below wx.heap.size wx w') := Lib.hid fun wx h => O2'.out A1 c1 wx (by rw [hFe] at h; exact h)
    have RA : Hid (∀ wx : World, Fa wx → Calls Tryd.prog 11 #[.int .i64 i] wx fun E w' => ∃ A c, E = .returned (.slice A rk.length c) ∧ Hid (Rd (fun _ => True) w' A rk.length rk) ∧ Below wx.heap.size wx w') := Lib.hid fun wx h => R1'.out wx (hKa.out wx h).1 (hKa.out wx h).2
    have RB : Hid (∀ wx : World, Fa wx → Calls Tryd.prog 12 #[.int .i64 i] wx fun E w' => ∃ A c, E = .returned (.slice A rk.length c) ∧ Hid (Rd (fun _ => True) w' A rk.length rk) ∧ Below wx.heap.size wx w') := Lib.hid fun wx h => R2'.out wx (hKa.out wx h).1 (hKa.out wx h).2
    have CA : Hid (∀ wx : World, Fa wx → Calls Tryd.prog 13 #[.int .i64 i] wx fun E w' => ∃ A c, E = .returned (.slice A ck.length c) ∧ Hid (Rd (fun _ => True) w' A ck.length ck) ∧ Below wx.heap.size wx w') := Lib.hid fun wx h => C1'.out wx (hKa.out wx h).1 (hKa.out wx h).2
    have CB : Hid (∀ wx : World, Fa wx → Calls Tryd.prog 14 #[.int .i64 i] wx fun E w' => ∃ A c, E = .returned (.slice A ck.length c) ∧ Hid (Rd (fun _ => True) w' A ck.length ck) ∧ Below wx.heap.size wx w') := Lib.hid fun wx h => C2'.out wx (hKa.out wx h).1 (hKa.out wx h).2
    have NA : Hid (∀ wx : World, Fa wx → Calls Tryd.prog 15 #[.int .i64 i, .int .u64 nn, .slice A1 n' c1] wx fun E w' => E = .returned (.agg (u8s df).toArray) ∧ Below wx.heap.size wx w') := Lib.hid fun wx h => N1'.out A1 c1 wx (by rw [hFe] at h; exact h)
    have NB : Hid (∀ wx : World, Fa wx → Calls Tryd.prog 16 #[.int .i64 i, .int .u64 nn, .slice A' n' c'] wx fun E w' => E = .returned (.agg (u8s df).toArray) ∧ Below wx.heap.size wx w') := Lib.hid fun wx h => N2'.out A1 c1 wx (by rw [hFe] at h; exact h)
    rw [← hFe] at FwD
    have HFE := Lib.hid hFe
    clear hFe O1' O2' R1' R2' C1' C2' N1' N2' hKa
    refine wp_region_any (by kernel_rfl) ?_
    change wpAny _ _ _ _ _ _ _ (w3.drewN 1)
    generalize w3.drewN 1 = wD at FwD ⊢
    refine wpAny_of_held (S := fun W => Below wD.heap.size wD W) _ _ _ _ ?_
    refine wpAnyH_take (i := 0) (oi := { dst := some 30, op := Op.move (Operand.tmp 9), type := 22, pos := "law.go:30", after := #[], guard := none }) (v := .slice (some ⟨w.heap.size, 0, none⟩) n (n + 80)) rfl (by kernel_rfl) (by kernel_rfl) (by kernel_rfl) (fun _ _ _ h => h) (Or.inl ⟨by kernel_rfl, fun W hSW => by go_simp⟩) (Below.refl _ _) ?_
    simp only [Act.put, List.setIfInBounds_toArray, List.set_cons_zero, List.set_cons_succ]
    refine wpAnyH_take (i := 1) (oi := { dst := some 31, op := Op.move (Operand.tmp 10), type := 22, pos := "law.go:30", after := #[], guard := none }) (v := (.slice A1 n' c1)) rfl (by kernel_rfl) (by kernel_rfl) (by kernel_rfl) (fun _ _ _ h => h) (Or.inl ⟨by kernel_rfl, fun W hSW => by go_simp⟩) (Below.refl _ _) ?_
    simp only [Act.put, List.setIfInBounds_toArray, List.set_cons_zero, List.set_cons_succ]
    refine wpAnyH_take (i := 3) (oi := { dst := some 33, op := Op.move (Operand.tmp 0), type := 22, pos := "law.go:30", after := #[], guard := none }) (v := .slice A n c) rfl (by kernel_rfl) (by kernel_rfl) (by kernel_rfl) (fun _ _ _ h => h) (Or.inl ⟨by kernel_rfl, fun W hSW => by go_simp⟩) (Below.refl _ _) ?_
    simp only [Act.put, List.setIfInBounds_toArray, List.set_cons_zero, List.set_cons_succ]
    refine wpAnyH_take (i := 4) (oi := { dst := some 34, op := Op.move (Operand.tmp 1), type := 22, pos := "law.go:30", after := #[], guard := none }) (v := (.slice A' n' c')) rfl (by kernel_rfl) (by kernel_rfl) (by kernel_rfl) (fun _ _ _ h => h) (Or.inl ⟨by kernel_rfl, fun W hSW => by go_simp⟩) (Below.refl _ _) ?_
    simp only [Act.put, List.setIfInBounds_toArray, List.set_cons_zero, List.set_cons_succ]
    refine wpAnyH_ready (rs := [2]) (by kernel_rfl) (by simp) ?_
    refine AllReadyH.cons (o := { dst := some 32, op := Op.call { callee := Callee.value (Operand.func 9), args := #[Operand.tmp 30, Operand.tmp 31], argTypes := #[22, 22] }, type := 25, pos := "law.go:30", after := #[{ on := 0, ground := Ground.data }, { on := 1, ground := Ground.data }], guard := none }) rfl (fun K hK => ?_) AllReadyH.nil
    go_simp
    go_at_call 9
    refine (OA.out _ FwD.out).mono ?_
    rintro E w5 ⟨rfl, hb5⟩
    refine hK.out _ _ hb5 (fun _ => ?_)
    clear hK K
    refine wpAnyH_next hb5 ?_
    have Fw5 : Hid (Fa w5) := Lib.hid (hFa.out _ _ FwD.out hb5)
    clear hb5
    refine wpAnyH_ready (rs := [5]) (by kernel_rfl) (by simp) ?_
    refine AllReadyH.cons (o := { dst := some 35, op := Op.call { callee := Callee.value (Operand.func 10), args := #[Operand.tmp 33, Operand.tmp 34], argTypes := #[22, 22] }, type := 25, pos := "law.go:30", after := #[{ on := 3, ground := Ground.data }, { on := 4, ground := Ground.data }, { on := 2, ground := Ground.chain }], guard := none }) rfl (fun K hK => ?_) AllReadyH.nil
    go_simp
    go_at_call 10
    refine (OB.out _ Fw5.out).mono ?_
    rintro E w6 ⟨rfl, hb6⟩
    refine hK.out _ _ hb6 (fun _ => ?_)
    clear hK K
    refine wpAnyH_next hb6 ?_
    have Fw6 : Hid (Fa w6) := Lib.hid (hFa.out _ _ Fw5.out hb6)
    clear hb6
    refine wpAnyH_take (i := 6) (oi := { dst := some 36, op := Op.binOp BinOp.eql 25 (Operand.tmp 32) (Operand.tmp 35) 25, type := 4, pos := "law.go:30", after := #[{ on := 2, ground := Ground.data }, { on := 5, ground := Ground.data }], guard := none }) (v := .bool true) rfl (by kernel_rfl) (by kernel_rfl) (by kernel_rfl) (fun _ _ _ h => h) (Or.inl ⟨by kernel_rfl, fun W hSW => by go_simp⟩) (Below.refl _ _) ?_
    simp only [Act.put, List.setIfInBounds_toArray, List.set_cons_zero, List.set_cons_succ]
    refine wpAnyH_take (i := 7) (oi := { dst := some 37, op := Op.move (Operand.tmp 36), type := 4, pos := "law.go:30", after := #[{ on := 6, ground := Ground.data }, { on := 5, ground := Ground.chain }], guard := none }) (v := .bool true) rfl (by kernel_rfl) (by kernel_rfl) (by kernel_rfl) (fun _ _ _ h => h) (Or.inl ⟨by kernel_rfl, fun W hSW => by go_simp⟩) (Below.refl _ _) ?_
    simp only [Act.put, List.setIfInBounds_toArray, List.set_cons_zero, List.set_cons_succ]
    refine wpAnyH_take (i := 8) (oi := { dst := some 38, op := Op.move (Operand.tmp 2), type := 3, pos := "law.go:30", after := #[{ on := 7, ground := Ground.guard }], guard := some (7, true) }) (v := .int .i64 i) rfl (by kernel_rfl) (by kernel_rfl) (by kernel_rfl) (fun _ _ _ h => h) (Or.inl ⟨by kernel_rfl, fun W hSW => by go_simp⟩) (Below.refl _ _) ?_
    simp only [Act.put, List.setIfInBounds_toArray, List.set_cons_zero, List.set_cons_succ]
    refine wpAnyH_take (i := 11) (oi := { dst := some 41, op := Op.move (Operand.tmp 2), type := 3, pos := "law.go:30", after := #[{ on := 7, ground := Ground.guard }], guard := some (7, true) }) (v := .int .i64 i) rfl (by kernel_rfl) (by kernel_rfl) (by kernel_rfl) (fun _ _ _ h => h) (Or.inl ⟨by kernel_rfl, fun W hSW => by go_simp⟩) (Below.refl _ _) ?_
    simp only [Act.put, List.setIfInBounds_toArray, List.set_cons_zero, List.set_cons_succ]
    refine wpAnyH_ready (rs := [9]) (by kernel_rfl) (by simp) ?_
    refine AllReadyH.cons (o := { dst := some 39, op := Op.call { callee := Callee.value (Operand.func 11), args := #[Operand.tmp 38], argTypes := #[3] }, type := 22, pos := "law.go:30", after := #[{ on := 8, ground := Ground.data }, { on := 7, ground := Ground.chain }, { on := 7, ground := Ground.guard }], guard := some (7, true) }) rfl (fun K hK => ?_) AllReadyH.nil
    go_simp
    go_at_call 11
    refine (RA.out _ Fw6.out).mono ?_
    rintro E w7 ⟨A7, c7, rfl, hA7, hb7⟩
    refine hK.out _ _ hb7 (fun _ => ?_)
    clear hK K
    refine wpAnyH_next hb7 ?_
    have Fw7 : Hid (Fa w7) := Lib.hid (hFa.out _ _ Fw6.out hb7)
    have CA7 : ∀ W : World, Below w7.heap.size w7 W → (convert 22 9 (.slice A7 rk.length c7)).run Tryd.prog W = .ok (.string (str rk)) W := fun W h => run_string (hA7.out.below h (fun _ h _ => h))
    have DA7 := Lib.hid CA7
    clear CA7 hA7
    clear hb7
    refine wpAnyH_take (i := 10) (oi := { dst := some 40, op := Op.convert 22 9 (Operand.tmp 39), type := 9, pos := "law.go:30", after := #[{ on := 9, ground := Ground.data }, { on := 7, ground := Ground.guard }], guard := some (7, true) }) (v := .string (str rk)) rfl (by kernel_rfl) (by kernel_rfl) (by kernel_rfl) (fun _ _ _ h => h) (Or.inl ⟨by kernel_rfl, fun W hSW => by have hcv := DA7.out W hSW; go_simp⟩) (Below.refl _ _) ?_
    simp only [Act.put, List.setIfInBounds_toArray, List.set_cons_zero, List.set_cons_succ]
    refine wpAnyH_ready (rs := [12]) (by kernel_rfl) (by simp) ?_
    refine AllReadyH.cons (o := { dst := some 42, op := Op.call { callee := Callee.value (Operand.func 12), args := #[Operand.tmp 41], argTypes := #[3] }, type := 22, pos := "law.go:30", after := #[{ on := 11, ground := Ground.data }, { on := 9, ground := Ground.chain }, { on := 7, ground := Ground.guard }], guard := some (7, true) }) rfl (fun K hK => ?_) AllReadyH.nil
    go_simp
    go_at_call 12
    refine (RB.out _ Fw7.out).mono ?_
    rintro E w8 ⟨A8, c8, rfl, hA8, hb8⟩
    refine hK.out _ _ hb8 (fun _ => ?_)
    clear hK K
    refine wpAnyH_next hb8 ?_
    have Fw8 : Hid (Fa w8) := Lib.hid (hFa.out _ _ Fw7.out hb8)
    have CA8 : ∀ W : World, Below w8.heap.size w8 W → (convert 22 9 (.slice A8 rk.length c8)).run Tryd.prog W = .ok (.string (str rk)) W := fun W h => run_string (hA8.out.below h (fun _ h _ => h))
    have DA8 := Lib.hid CA8
    clear CA8 hA8
    clear hb8
    refine wpAnyH_take (i := 13) (oi := { dst := some 43, op := Op.convert 22 9 (Operand.tmp 42), type := 9, pos := "law.go:30", after := #[{ on := 12, ground := Ground.data }, { on := 7, ground := Ground.guard }], guard := some (7, true) }) (v := .string (str rk)) rfl (by kernel_rfl) (by kernel_rfl) (by kernel_rfl) (fun _ _ _ h => h) (Or.inl ⟨by kernel_rfl, fun W hSW => by have hcv := DA8.out W hSW; go_simp⟩) (Below.refl _ _) ?_
    simp only [Act.put, List.setIfInBounds_toArray, List.set_cons_zero, List.set_cons_succ]
    refine wpAnyH_take (i := 14) (oi := { dst := some 44, op := Op.binOp BinOp.eql 9 (Operand.tmp 40) (Operand.tmp 43) 9, type := 4, pos := "law.go:30", after := #[{ on := 10, ground := Ground.data }, { on := 13, ground := Ground.data }, { on := 7, ground := Ground.guard }], guard := some (7, true) }) (v := .bool true) rfl (by kernel_rfl) (by kernel_rfl) (by kernel_rfl) (fun _ _ _ h => h) (Or.inl ⟨by kernel_rfl, fun W hSW => by go_simp⟩) (Below.refl _ _) ?_
    simp only [Act.put, List.setIfInBounds_toArray, List.set_cons_zero, List.set_cons_succ]
    refine wpAnyH_take (i := 15) (oi := { dst := some 45, op := Op.pick (Operand.tmp 37) (Operand.tmp 44) (Operand.const (Value.bool false)), type := 4, pos := "law.go:30", after := #[{ on := 7, ground := Ground.data }, { on := 14, ground := Ground.data }], guard := none }) (v := .bool true) rfl (by kernel_rfl) (by kernel_rfl) (by kernel_rfl) (fun _ _ _ h => h) (Or.inl ⟨by kernel_rfl, fun W hSW => by go_simp⟩) (Below.refl _ _) ?_
    simp only [Act.put, List.setIfInBounds_toArray, List.set_cons_zero, List.set_cons_succ]
    refine wpAnyH_take (i := 16) (oi := { dst := some 46, op := Op.move (Operand.tmp 45), type := 4, pos := "law.go:30", after := #[{ on := 15, ground := Ground.data }, { on := 12, ground := Ground.chain }], guard := none }) (v := .bool true) rfl (by kernel_rfl) (by kernel_rfl) (by kernel_rfl) (fun _ _ _ h => h) (Or.inl ⟨by kernel_rfl, fun W hSW => by go_simp⟩) (Below.refl _ _) ?_
    simp only [Act.put, List.setIfInBounds_toArray, List.set_cons_zero, List.set_cons_succ]
    refine wpAnyH_take (i := 17) (oi := { dst := some 47, op := Op.move (Operand.tmp 2), type := 3, pos := "law.go:30", after := #[{ on := 16, ground := Ground.guard }], guard := some (16, true) }) (v := .int .i64 i) rfl (by kernel_rfl) (by kernel_rfl) (by kernel_rfl) (fun _ _ _ h => h) (Or.inl ⟨by kernel_rfl, fun W hSW => by go_simp⟩) (Below.refl _ _) ?_
    simp only [Act.put, List.setIfInBounds_toArray, List.set_cons_zero, List.set_cons_succ]
    refine wpAnyH_take (i := 20) (oi := { dst := some 50, op := Op.move (Operand.tmp 2), type := 3, pos := "law.go:30", after := #[{ on := 16, ground := Ground.guard }], guard := some (16, true) }) (v := .int .i64 i) rfl (by kernel_rfl) (by kernel_rfl) (by kernel_rfl) (fun _ _ _ h => h) (Or.inl ⟨by kernel_rfl, fun W hSW => by go_simp⟩) (Below.refl _ _) ?_
    simp only [Act.put, List.setIfInBounds_toArray, List.set_cons_zero, List.set_cons_succ]
    refine wpAnyH_ready (rs := [18]) (by kernel_rfl) (by simp) ?_
    refine AllReadyH.cons (o := { dst := some 48, op := Op.call { callee := Callee.value (Operand.func 13), args := #[Operand.tmp 47], argTypes := #[3] }, type := 22, pos := "law.go:30", after := #[{ on := 17, ground := Ground.data }, { on := 16, ground := Ground.chain }, { on := 16, ground := Ground.guard }], guard := some (16, true) }) rfl (fun K hK => ?_) AllReadyH.nil
    go_simp
    go_at_call 13
    refine (CA.out _ Fw8.out).mono ?_
    rintro E w9 ⟨A9, c9, rfl, hA9, hb9⟩
    refine hK.out _ _ hb9 (fun _ => ?_)
    clear hK K
    refine wpAnyH_next hb9 ?_
    have Fw9 : Hid (Fa w9) := Lib.hid (hFa.out _ _ Fw8.out hb9)
    have CA9 : ∀ W : World, Below w9.heap.size w9 W → (convert 22 9 (.slice A9 ck.length c9)).run Tryd.prog W = .ok (.string (str ck)) W := fun W h => run_string (hA9.out.below h (fun _ h _ => h))
    have DA9 := Lib.hid CA9
    clear CA9 hA9
    clear hb9
    refine wpAnyH_take (i := 19) (oi := { dst := some 49, op := Op.convert 22 9 (Operand.tmp 48), type := 9, pos := "law.go:30", after := #[{ on := 18, ground := Ground.data }, { on := 16, ground := Ground.guard }], guard := some (16, true) }) (v := .string (str ck)) rfl (by kernel_rfl) (by kernel_rfl) (by kernel_rfl) (fun _ _ _ h => h) (Or.inl ⟨by kernel_rfl, fun W hSW => by have hcv := DA9.out W hSW; go_simp⟩) (Below.refl _ _) ?_
    simp only [Act.put, List.setIfInBounds_toArray, List.set_cons_zero, List.set_cons_succ]
    refine wpAnyH_ready (rs := [21]) (by kernel_rfl) (by simp) ?_
    refine AllReadyH.cons (o := { dst := some 51, op := Op.call { callee := Callee.value (Operand.func 14), args := #[Operand.tmp 50], argTypes := #[3] }, type := 22, pos := "law.go:30", after := #[{ on := 20, ground := Ground.data }, { on := 18, ground := Ground.chain }, { on := 16, ground := Ground.guard }], guard := some (16, true) }) rfl (fun K hK => ?_) AllReadyH.nil
    go_simp
    go_at_call 14
    refine (CB.out _ Fw9.out).mono ?_
    rintro E w10 ⟨A10, c10, rfl, hA10, hb10⟩
    refine hK.out _ _ hb10 (fun _ => ?_)
    clear hK K
    refine wpAnyH_next hb10 ?_
    have Fw10 : Hid (Fa w10) := Lib.hid (hFa.out _ _ Fw9.out hb10)
    have CA10 : ∀ W : World, Below w10.heap.size w10 W → (convert 22 9 (.slice A10 ck.length c10)).run Tryd.prog W = .ok (.string (str ck)) W := fun W h => run_string (hA10.out.below h (fun _ h _ => h))
    have DA10 := Lib.hid CA10
    clear CA10 hA10
    clear hb10
    refine wpAnyH_take (i := 22) (oi := { dst := some 52, op := Op.convert 22 9 (Operand.tmp 51), type := 9, pos := "law.go:30", after := #[{ on := 21, ground := Ground.data }, { on := 16, ground := Ground.guard }], guard := some (16, true) }) (v := .string (str ck)) rfl (by kernel_rfl) (by kernel_rfl) (by kernel_rfl) (fun _ _ _ h => h) (Or.inl ⟨by kernel_rfl, fun W hSW => by have hcv := DA10.out W hSW; go_simp⟩) (Below.refl _ _) ?_
    simp only [Act.put, List.setIfInBounds_toArray, List.set_cons_zero, List.set_cons_succ]
    refine wpAnyH_take (i := 23) (oi := { dst := some 53, op := Op.binOp BinOp.eql 9 (Operand.tmp 49) (Operand.tmp 52) 9, type := 4, pos := "law.go:30", after := #[{ on := 19, ground := Ground.data }, { on := 22, ground := Ground.data }, { on := 16, ground := Ground.guard }], guard := some (16, true) }) (v := .bool true) rfl (by kernel_rfl) (by kernel_rfl) (by kernel_rfl) (fun _ _ _ h => h) (Or.inl ⟨by kernel_rfl, fun W hSW => by go_simp⟩) (Below.refl _ _) ?_
    simp only [Act.put, List.setIfInBounds_toArray, List.set_cons_zero, List.set_cons_succ]
    refine wpAnyH_take (i := 24) (oi := { dst := some 54, op := Op.pick (Operand.tmp 46) (Operand.tmp 53) (Operand.const (Value.bool false)), type := 4, pos := "law.go:30", after := #[{ on := 16, ground := Ground.data }, { on := 23, ground := Ground.data }], guard := none }) (v := .bool true) rfl (by kernel_rfl) (by kernel_rfl) (by kernel_rfl) (fun _ _ _ h => h) (Or.inl ⟨by kernel_rfl, fun W hSW => by go_simp⟩) (Below.refl _ _) ?_
    simp only [Act.put, List.setIfInBounds_toArray, List.set_cons_zero, List.set_cons_succ]
    refine wpAnyH_take (i := 25) (oi := { dst := some 55, op := Op.move (Operand.tmp 54), type := 4, pos := "law.go:30", after := #[{ on := 24, ground := Ground.data }, { on := 21, ground := Ground.chain }], guard := none }) (v := .bool true) rfl (by kernel_rfl) (by kernel_rfl) (by kernel_rfl) (fun _ _ _ h => h) (Or.inl ⟨by kernel_rfl, fun W hSW => by go_simp⟩) (Below.refl _ _) ?_
    simp only [Act.put, List.setIfInBounds_toArray, List.set_cons_zero, List.set_cons_succ]
    refine wpAnyH_take (i := 26) (oi := { dst := some 56, op := Op.move (Operand.tmp 2), type := 3, pos := "law.go:30", after := #[{ on := 25, ground := Ground.guard }], guard := some (25, true) }) (v := .int .i64 i) rfl (by kernel_rfl) (by kernel_rfl) (by kernel_rfl) (fun _ _ _ h => h) (Or.inl ⟨by kernel_rfl, fun W hSW => by go_simp⟩) (Below.refl _ _) ?_
    simp only [Act.put, List.setIfInBounds_toArray, List.set_cons_zero, List.set_cons_succ]
    refine wpAnyH_take (i := 27) (oi := { dst := some 57, op := Op.move (Operand.tmp 3), type := 23, pos := "law.go:30", after := #[{ on := 25, ground := Ground.guard }], guard := some (25, true) }) (v := .int .u64 nn) rfl (by kernel_rfl) (by kernel_rfl) (by kernel_rfl) (fun _ _ _ h => h) (Or.inl ⟨by kernel_rfl, fun W hSW => by go_simp⟩) (Below.refl _ _) ?_
    simp only [Act.put, List.setIfInBounds_toArray, List.set_cons_zero, List.set_cons_succ]
    refine wpAnyH_take (i := 28) (oi := { dst := some 58, op := Op.move (Operand.tmp 10), type := 22, pos := "law.go:30", after := #[{ on := 25, ground := Ground.guard }], guard := some (25, true) }) (v := (.slice A1 n' c1)) rfl (by kernel_rfl) (by kernel_rfl) (by kernel_rfl) (fun _ _ _ h => h) (Or.inl ⟨by kernel_rfl, fun W hSW => by go_simp⟩) (Below.refl _ _) ?_
    simp only [Act.put, List.setIfInBounds_toArray, List.set_cons_zero, List.set_cons_succ]
    refine wpAnyH_take (i := 30) (oi := { dst := some 60, op := Op.move (Operand.tmp 2), type := 3, pos := "law.go:30", after := #[{ on := 25, ground := Ground.guard }], guard := some (25, true) }) (v := .int .i64 i) rfl (by kernel_rfl) (by kernel_rfl) (by kernel_rfl) (fun _ _ _ h => h) (Or.inl ⟨by kernel_rfl, fun W hSW => by go_simp⟩) (Below.refl _ _) ?_
    simp only [Act.put, List.setIfInBounds_toArray, List.set_cons_zero, List.set_cons_succ]
    refine wpAnyH_take (i := 31) (oi := { dst := some 61, op := Op.move (Operand.tmp 3), type := 23, pos := "law.go:30", after := #[{ on := 25, ground := Ground.guard }], guard := some (25, true) }) (v := .int .u64 nn) rfl (by kernel_rfl) (by kernel_rfl) (by kernel_rfl) (fun _ _ _ h => h) (Or.inl ⟨by kernel_rfl, fun W hSW => by go_simp⟩) (Below.refl _ _) ?_
    simp only [Act.put, List.setIfInBounds_toArray, List.set_cons_zero, List.set_cons_succ]
    refine wpAnyH_take (i := 32) (oi := { dst := some 62, op := Op.move (Operand.tmp 1), type := 22, pos := "law.go:30", after := #[{ on := 25, ground := Ground.guard }], guard := some (25, true) }) (v := (.slice A' n' c')) rfl (by kernel_rfl) (by kernel_rfl) (by kernel_rfl) (fun _ _ _ h => h) (Or.inl ⟨by kernel_rfl, fun W hSW => by go_simp⟩) (Below.refl _ _) ?_
    simp only [Act.put, List.setIfInBounds_toArray, List.set_cons_zero, List.set_cons_succ]
    refine wpAnyH_ready (rs := [29]) (by kernel_rfl) (by simp) ?_
    refine AllReadyH.cons (o := { dst := some 59, op := Op.call { callee := Callee.value (Operand.func 15), args := #[Operand.tmp 56, Operand.tmp 57, Operand.tmp 58], argTypes := #[3, 23, 22] }, type := 25, pos := "law.go:30", after := #[{ on := 26, ground := Ground.data }, { on := 27, ground := Ground.data }, { on := 28, ground := Ground.data }, { on := 25, ground := Ground.chain }, { on := 25, ground := Ground.guard }], guard := some (25, true) }) rfl (fun K hK => ?_) AllReadyH.nil
    go_simp
    go_at_call 15
    refine (NA.out _ Fw10.out).mono ?_
    rintro E w11 ⟨rfl, hb11⟩
    refine hK.out _ _ hb11 (fun _ => ?_)
    clear hK K
    refine wpAnyH_next hb11 ?_
    have Fw11 : Hid (Fa w11) := Lib.hid (hFa.out _ _ Fw10.out hb11)
    clear hb11
    refine wpAnyH_ready (rs := [33]) (by kernel_rfl) (by simp) ?_
    refine AllReadyH.cons (o := { dst := some 63, op := Op.call { callee := Callee.value (Operand.func 16), args := #[Operand.tmp 60, Operand.tmp 61, Operand.tmp 62], argTypes := #[3, 23, 22] }, type := 25, pos := "law.go:30", after := #[{ on := 30, ground := Ground.data }, { on := 31, ground := Ground.data }, { on := 32, ground := Ground.data }, { on := 29, ground := Ground.chain }, { on := 25, ground := Ground.guard }], guard := some (25, true) }) rfl (fun K hK => ?_) AllReadyH.nil
    go_simp
    go_at_call 16
    refine (NB.out _ Fw11.out).mono ?_
    rintro E w12 ⟨rfl, hb12⟩
    refine hK.out _ _ hb12 (fun _ => ?_)
    clear hK K
    refine wpAnyH_next hb12 ?_
    have Fw12 : Hid (Fa w12) := Lib.hid (hFa.out _ _ Fw11.out hb12)
    clear hb12
    refine wpAnyH_take (i := 34) (oi := { dst := some 64, op := Op.binOp BinOp.eql 25 (Operand.tmp 59) (Operand.tmp 63) 25, type := 4, pos := "law.go:30", after := #[{ on := 29, ground := Ground.data }, { on := 33, ground := Ground.data }, { on := 25, ground := Ground.guard }], guard := some (25, true) }) (v := .bool true) rfl (by kernel_rfl) (by kernel_rfl) (by kernel_rfl) (fun _ _ _ h => h) (Or.inl ⟨by kernel_rfl, fun W hSW => by go_simp⟩) (Below.refl _ _) ?_
    simp only [Act.put, List.setIfInBounds_toArray, List.set_cons_zero, List.set_cons_succ]
    refine wpAnyH_take (i := 35) (oi := { dst := some 65, op := Op.pick (Operand.tmp 55) (Operand.tmp 64) (Operand.const (Value.bool false)), type := 4, pos := "law.go:30", after := #[{ on := 25, ground := Ground.data }, { on := 34, ground := Ground.data }], guard := none }) (v := .bool true) rfl (by kernel_rfl) (by kernel_rfl) (by kernel_rfl) (fun _ _ _ h => h) (Or.inl ⟨by kernel_rfl, fun W hSW => by go_simp⟩) (Below.refl _ _) ?_
    simp only [Act.put, List.setIfInBounds_toArray, List.set_cons_zero, List.set_cons_succ]
    refine wpAnyH_take (i := 36) (oi := { dst := some 11, op := Op.assign (Operand.tmp 65), type := 4, pos := "law.go:30", after := #[{ on := 35, ground := Ground.data }, { on := 33, ground := Ground.chain }, { on := 0, ground := Ground.phase }, { on := 1, ground := Ground.phase }, { on := 2, ground := Ground.phase }, { on := 3, ground := Ground.phase }, { on := 4, ground := Ground.phase }, { on := 5, ground := Ground.phase }, { on := 6, ground := Ground.phase }, { on := 7, ground := Ground.phase }, { on := 8, ground := Ground.phase }, { on := 9, ground := Ground.phase }, { on := 10, ground := Ground.phase }, { on := 11, ground := Ground.phase }, { on := 12, ground := Ground.phase }, { on := 13, ground := Ground.phase }, { on := 14, ground := Ground.phase }, { on := 15, ground := Ground.phase }, { on := 16, ground := Ground.phase }, { on := 17, ground := Ground.phase }, { on := 18, ground := Ground.phase }, { on := 19, ground := Ground.phase }, { on := 20, ground := Ground.phase }, { on := 21, ground := Ground.phase }, { on := 22, ground := Ground.phase }, { on := 23, ground := Ground.phase }, { on := 24, ground := Ground.phase }, { on := 25, ground := Ground.phase }, { on := 26, ground := Ground.phase }, { on := 27, ground := Ground.phase }, { on := 28, ground := Ground.phase }, { on := 29, ground := Ground.phase }, { on := 30, ground := Ground.phase }, { on := 31, ground := Ground.phase }, { on := 32, ground := Ground.phase }, { on := 33, ground := Ground.phase }, { on := 34, ground := Ground.phase }, { on := 35, ground := Ground.phase }], guard := none }) (v := .bool true) rfl (by kernel_rfl) (by kernel_rfl) (by kernel_rfl) (fun _ _ _ h => h) (Or.inl ⟨by kernel_rfl, fun W hSW => by go_simp⟩) (Below.refl _ _) ?_
    simp only [Act.put, List.setIfInBounds_toArray, List.set_cons_zero, List.set_cons_succ]
    refine wpAnyH_done (by kernel_rfl) ?_ _
    go_wp2_with (fail)
    go_meet
    case rel => exact ⟨rfl, Lib.hid (by have := Fw12.out; rw [HFE.out] at this; exact this)⟩
  case rest =>
    clear F3 O1' O2' R1' R2' C1' C2' N1' N2' heq heqf hgd
    obtain ⟨rfl, H12⟩ := hcut
    have hn1 : n ≤ 4096 := by omega
    have hn2 : n' ≤ 4096 := by omega
    go_wp2_with (fail)
    go_loopw [13] (fun v13 wr => ∃ k : Nat, k ≤ n + 80 ∧ v13 = .int .i64 k ∧ Hid (FaAt key b A n c A' n' c' A1 c1 w wr)) (fun v13 _ => n + 80 - (intOf v13).toNat)
    case atStart => exact ⟨0, by omega, rfl, H12⟩
    case round =>
      clear H12
      obtain ⟨k, hk, rfl, HF⟩ := hrel
      by_cases hk80 : k < n + 80
      · have HKL : Hid (k < (key ++ List.replicate 80 0).length) := Lib.hid (by rw [List.length_append, List.length_replicate, HR.out.1]; exact hk80)
        have HC := Lib.hid (range_of_heap HF.out.blk)
        have hc1 := rangeAt_u8 HC.out k HKL.out
        by_cases hkn : k < n
        · obtain ⟨b', o', hA, hlt, _, hcell⟩ := HR.out.2 (by omega)
          have hkx : k < key.length := by rw [HR.out.1]; exact hkn
          have hx : (key ++ List.replicate 80 0).getD k 0 = key.getD k 0 := by rw [List.getD_eq_getElem?_getD, List.getElem?_append_left hkx, List.getD_eq_getElem?_getD]
          rw [hx] at hc1
          have hc2 := (HF.out.bel.cell (p := ⟨b', o' + k, none⟩) hlt).trans (hcell k (key.getD k 0) (by rw [List.getD_eq_getElem?_getD, List.getElem?_eq_getElem hkx]; rfl))
          subst hA
          clear hx hkx hlt hcell
          generalize key.getD k 0 = x at hc1 hc2
          go_upto_region 10 with (fail)
          try simp only [Act.put]
          refine wp_region_any (by kernel_rfl) ?_
          change wpAny _ _ _ _ _ _ _ (World.drew _)
          refine wpAny_of_held (S := fun W => W = wr.drew) _ _ _ _ ?_
          refine wpAnyH_take (i := 0) (oi := { dst := some 77, op := Op.move (Operand.tmp 13), type := 3, pos := "law.go:33", after := #[], guard := none }) (v := .int .i64 k) rfl (by kernel_rfl) (by kernel_rfl) (by kernel_rfl) (fun _ _ _ h => h) (Or.inl ⟨by kernel_rfl, fun W hSW => by subst hSW; go_simp⟩) rfl ?_
          simp only [Act.put, List.setIfInBounds_toArray, List.set_cons_zero, List.set_cons_succ]
          refine wpAnyH_take (i := 1) (oi := { dst := some 78, op := Op.move (Operand.tmp 0), type := 22, pos := "law.go:33", after := #[], guard := none }) (v := (.slice (some ⟨b', o', none⟩) n c)) rfl (by kernel_rfl) (by kernel_rfl) (by kernel_rfl) (fun _ _ _ h => h) (Or.inl ⟨by kernel_rfl, fun W hSW => by subst hSW; go_simp⟩) rfl ?_
          simp only [Act.put, List.setIfInBounds_toArray, List.set_cons_zero, List.set_cons_succ]
          refine wpAnyH_take (i := 2) (oi := { dst := some 79, op := Op.call { callee := Callee.builtin Builtin.len, args := #[Operand.tmp 78], argTypes := #[22] }, type := 3, pos := "law.go:33", after := #[{ on := 1, ground := Ground.data }], guard := none }) (v := .int .i64 n) rfl (by kernel_rfl) (by kernel_rfl) (by kernel_rfl) (fun _ _ _ h => h) (Or.inl ⟨by kernel_rfl, fun W hSW => by subst hSW; go_simp⟩) rfl ?_
          simp only [Act.put, List.setIfInBounds_toArray, List.set_cons_zero, List.set_cons_succ]
          refine wpAnyH_take (i := 3) (oi := { dst := some 80, op := Op.binOp BinOp.lss 3 (Operand.tmp 77) (Operand.tmp 79) 3, type := 4, pos := "law.go:33", after := #[{ on := 0, ground := Ground.data }, { on := 2, ground := Ground.data }], guard := none }) (v := .bool true) rfl (by kernel_rfl) (by kernel_rfl) (by kernel_rfl) (fun _ _ _ h => h) (Or.inl ⟨by kernel_rfl, fun W hSW => by subst hSW; go_simp⟩) rfl ?_
          simp only [Act.put, List.setIfInBounds_toArray, List.set_cons_zero, List.set_cons_succ]
          refine wpAnyH_take (i := 4) (oi := { dst := some 81, op := Op.move (Operand.tmp 80), type := 4, pos := "law.go:33", after := #[{ on := 3, ground := Ground.data }], guard := none }) (v := .bool true) rfl (by kernel_rfl) (by kernel_rfl) (by kernel_rfl) (fun _ _ _ h => h) (Or.inl ⟨by kernel_rfl, fun W hSW => by subst hSW; go_simp⟩) rfl ?_
          simp only [Act.put, List.setIfInBounds_toArray, List.set_cons_zero, List.set_cons_succ]
          refine wpAnyH_take (i := 5) (oi := { dst := some 82, op := Op.move (Operand.tmp 12), type := 22, pos := "law.go:33", after := #[{ on := 4, ground := Ground.guard }], guard := some (4, true) }) (v := .slice (some ⟨w.heap.size, 0, none⟩) (n + 80) (n + 80)) rfl (by kernel_rfl) (by kernel_rfl) (by kernel_rfl) (fun _ _ _ h => h) (Or.inl ⟨by kernel_rfl, fun W hSW => by subst hSW; go_simp⟩) rfl ?_
          simp only [Act.put, List.setIfInBounds_toArray, List.set_cons_zero, List.set_cons_succ]
          refine wpAnyH_take (i := 6) (oi := { dst := some 83, op := Op.move (Operand.tmp 13), type := 3, pos := "law.go:33", after := #[{ on := 4, ground := Ground.guard }], guard := some (4, true) }) (v := .int .i64 k) rfl (by kernel_rfl) (by kernel_rfl) (by kernel_rfl) (fun _ _ _ h => h) (Or.inl ⟨by kernel_rfl, fun W hSW => by subst hSW; go_simp⟩) rfl ?_
          simp only [Act.put, List.setIfInBounds_toArray, List.set_cons_zero, List.set_cons_succ]
          refine wpAnyH_take (i := 7) (oi := { dst := some 84, op := Op.indexAddr 22 (Operand.tmp 82) (Operand.tmp 83), type := 0, pos := "law.go:33", after := #[{ on := 5, ground := Ground.data }, { on := 6, ground := Ground.data }, { on := 4, ground := Ground.guard }], guard := some (4, true) }) (v := .pointer (some ⟨w.heap.size, k, none⟩)) rfl (by kernel_rfl) (by kernel_rfl) (by kernel_rfl) (fun _ _ _ h => h) (Or.inl ⟨by kernel_rfl, fun W hSW => by subst hSW; go_simp⟩) rfl ?_
          simp only [Act.put, List.setIfInBounds_toArray, List.set_cons_zero, List.set_cons_succ]
          refine wpAnyH_take (i := 8) (oi := { dst := some 85, op := Op.load 5 (Operand.tmp 84), type := 5, pos := "law.go:33", after := #[{ on := 7, ground := Ground.data }, { on := 4, ground := Ground.guard }], guard := some (4, true) }) (v := .int .u8 (x.toNat : Int)) rfl (by kernel_rfl) (by kernel_rfl) (by kernel_rfl) (fun _ _ _ h => h) (Or.inl ⟨by kernel_rfl, fun W hSW => by subst hSW; go_simp⟩) rfl ?_
          simp only [Act.put, List.setIfInBounds_toArray, List.set_cons_zero, List.set_cons_succ]
          refine wpAnyH_take (i := 9) (oi := { dst := some 86, op := Op.move (Operand.tmp 0), type := 22, pos := "law.go:33", after := #[{ on := 4, ground := Ground.guard }], guard := some (4, true) }) (v := (.slice (some ⟨b', o', none⟩) n c)) rfl (by kernel_rfl) (by kernel_rfl) (by kernel_rfl) (fun _ _ _ h => h) (Or.inl ⟨by kernel_rfl, fun W hSW => by subst hSW; go_simp⟩) rfl ?_
          simp only [Act.put, List.setIfInBounds_toArray, List.set_cons_zero, List.set_cons_succ]
          refine wpAnyH_take (i := 10) (oi := { dst := some 87, op := Op.move (Operand.tmp 13), type := 3, pos := "law.go:33", after := #[{ on := 4, ground := Ground.guard }], guard := some (4, true) }) (v := .int .i64 k) rfl (by kernel_rfl) (by kernel_rfl) (by kernel_rfl) (fun _ _ _ h => h) (Or.inl ⟨by kernel_rfl, fun W hSW => by subst hSW; go_simp⟩) rfl ?_
          simp only [Act.put, List.setIfInBounds_toArray, List.set_cons_zero, List.set_cons_succ]
          refine wpAnyH_take (i := 11) (oi := { dst := some 88, op := Op.indexAddr 22 (Operand.tmp 86) (Operand.tmp 87), type := 0, pos := "law.go:33", after := #[{ on := 9, ground := Ground.data }, { on := 10, ground := Ground.data }, { on := 4, ground := Ground.guard }], guard := some (4, true) }) (v := (.pointer (some ⟨b', o' + k, none⟩))) rfl (by kernel_rfl) (by kernel_rfl) (by kernel_rfl) (fun _ _ _ h => h) (Or.inl ⟨by kernel_rfl, fun W hSW => by subst hSW; go_simp⟩) rfl ?_
          simp only [Act.put, List.setIfInBounds_toArray, List.set_cons_zero, List.set_cons_succ]
          refine wpAnyH_take (i := 12) (oi := { dst := some 89, op := Op.load 5 (Operand.tmp 88), type := 5, pos := "law.go:33", after := #[{ on := 11, ground := Ground.data }, { on := 4, ground := Ground.guard }], guard := some (4, true) }) (v := .int .u8 (x.toNat : Int)) rfl (by kernel_rfl) (by kernel_rfl) (by kernel_rfl) (fun _ _ _ h => h) (Or.inl ⟨by kernel_rfl, fun W hSW => by subst hSW; go_simp⟩) rfl ?_
          simp only [Act.put, List.setIfInBounds_toArray, List.set_cons_zero, List.set_cons_succ]
          refine wpAnyH_take (i := 13) (oi := { dst := some 90, op := Op.binOp BinOp.neq 5 (Operand.tmp 85) (Operand.tmp 89) 5, type := 4, pos := "law.go:33", after := #[{ on := 8, ground := Ground.data }, { on := 12, ground := Ground.data }, { on := 4, ground := Ground.guard }], guard := some (4, true) }) (v := .bool false) rfl (by kernel_rfl) (by kernel_rfl) (by kernel_rfl) (fun _ _ _ h => h) (Or.inl ⟨by kernel_rfl, fun W hSW => by subst hSW; go_simp⟩) rfl ?_
          simp only [Act.put, List.setIfInBounds_toArray, List.set_cons_zero, List.set_cons_succ]
          refine wpAnyH_take (i := 14) (oi := { dst := some 91, op := Op.pick (Operand.tmp 81) (Operand.tmp 90) (Operand.const (Value.bool false)), type := 4, pos := "law.go:33", after := #[{ on := 4, ground := Ground.data }, { on := 13, ground := Ground.data }], guard := none }) (v := .bool false) rfl (by kernel_rfl) (by kernel_rfl) (by kernel_rfl) (fun _ _ _ h => h) (Or.inl ⟨by kernel_rfl, fun W hSW => by subst hSW; go_simp⟩) rfl ?_
          simp only [Act.put, List.setIfInBounds_toArray, List.set_cons_zero, List.set_cons_succ]
          refine wpAnyH_take (i := 15) (oi := { dst := some 92, op := Op.move (Operand.tmp 91), type := 4, pos := "law.go:33", after := #[{ on := 14, ground := Ground.data }, { on := 4, ground := Ground.chain }], guard := none }) (v := .bool false) rfl (by kernel_rfl) (by kernel_rfl) (by kernel_rfl) (fun _ _ _ h => h) (Or.inl ⟨by kernel_rfl, fun W hSW => by subst hSW; go_simp⟩) rfl ?_
          simp only [Act.put, List.setIfInBounds_toArray, List.set_cons_zero, List.set_cons_succ]
          refine wpAnyH_take (i := 16) (oi := { dst := some 93, op := Op.move (Operand.tmp 13), type := 3, pos := "law.go:33", after := #[{ on := 15, ground := Ground.guard }], guard := some (15, false) }) (v := .int .i64 k) rfl (by kernel_rfl) (by kernel_rfl) (by kernel_rfl) (fun _ _ _ h => h) (Or.inl ⟨by kernel_rfl, fun W hSW => by subst hSW; go_simp⟩) rfl ?_
          simp only [Act.put, List.setIfInBounds_toArray, List.set_cons_zero, List.set_cons_succ]
          refine wpAnyH_take (i := 17) (oi := { dst := some 94, op := Op.move (Operand.tmp 0), type := 22, pos := "law.go:33", after := #[{ on := 15, ground := Ground.guard }], guard := some (15, false) }) (v := (.slice (some ⟨b', o', none⟩) n c)) rfl (by kernel_rfl) (by kernel_rfl) (by kernel_rfl) (fun _ _ _ h => h) (Or.inl ⟨by kernel_rfl, fun W hSW => by subst hSW; go_simp⟩) rfl ?_
          simp only [Act.put, List.setIfInBounds_toArray, List.set_cons_zero, List.set_cons_succ]
          refine wpAnyH_take (i := 18) (oi := { dst := some 95, op := Op.call { callee := Callee.builtin Builtin.len, args := #[Operand.tmp 94], argTypes := #[22] }, type := 3, pos := "law.go:33", after := #[{ on := 17, ground := Ground.data }, { on := 15, ground := Ground.guard }], guard := some (15, false) }) (v := .int .i64 n) rfl (by kernel_rfl) (by kernel_rfl) (by kernel_rfl) (fun _ _ _ h => h) (Or.inl ⟨by kernel_rfl, fun W hSW => by subst hSW; go_simp⟩) rfl ?_
          simp only [Act.put, List.setIfInBounds_toArray, List.set_cons_zero, List.set_cons_succ]
          refine wpAnyH_take (i := 19) (oi := { dst := some 96, op := Op.binOp BinOp.geq 3 (Operand.tmp 93) (Operand.tmp 95) 3, type := 4, pos := "law.go:33", after := #[{ on := 16, ground := Ground.data }, { on := 18, ground := Ground.data }, { on := 15, ground := Ground.guard }], guard := some (15, false) }) (v := .bool false) rfl (by kernel_rfl) (by kernel_rfl) (by kernel_rfl) (fun _ _ _ h => h) (Or.inl ⟨by kernel_rfl, fun W hSW => by subst hSW; go_simp⟩) rfl ?_
          simp only [Act.put, List.setIfInBounds_toArray, List.set_cons_zero, List.set_cons_succ]
          refine wpAnyH_take (i := 20) (oi := { dst := some 97, op := Op.move (Operand.tmp 96), type := 4, pos := "law.go:33", after := #[{ on := 19, ground := Ground.data }, { on := 15, ground := Ground.chain }, { on := 15, ground := Ground.guard }], guard := some (15, false) }) (v := .bool false) rfl (by kernel_rfl) (by kernel_rfl) (by kernel_rfl) (fun _ _ _ h => h) (Or.inl ⟨by kernel_rfl, fun W hSW => by subst hSW; go_simp⟩) rfl ?_
          simp only [Act.put, List.setIfInBounds_toArray, List.set_cons_zero, List.set_cons_succ]
          refine wpAnyH_take (i := 21) (oi := { dst := some 98, op := Op.move (Operand.tmp 12), type := 22, pos := "law.go:33", after := #[{ on := 20, ground := Ground.guard }], guard := some (20, true) }) (v := undef) rfl (by kernel_rfl) (by kernel_rfl) (by kernel_rfl) (fun _ _ _ h => h) (Or.inr ⟨by kernel_rfl, rfl⟩) rfl ?_
          simp only [Act.put, List.setIfInBounds_toArray, List.set_cons_zero, List.set_cons_succ]
          refine wpAnyH_take (i := 22) (oi := { dst := some 99, op := Op.move (Operand.tmp 13), type := 3, pos := "law.go:33", after := #[{ on := 20, ground := Ground.guard }], guard := some (20, true) }) (v := undef) rfl (by kernel_rfl) (by kernel_rfl) (by kernel_rfl) (fun _ _ _ h => h) (Or.inr ⟨by kernel_rfl, rfl⟩) rfl ?_
          simp only [Act.put, List.setIfInBounds_toArray, List.set_cons_zero, List.set_cons_succ]
          refine wpAnyH_take (i := 23) (oi := { dst := some 100, op := Op.indexAddr 22 (Operand.tmp 98) (Operand.tmp 99), type := 0, pos := "law.go:33", after := #[{ on := 21, ground := Ground.data }, { on := 22, ground := Ground.data }, { on := 20, ground := Ground.guard }], guard := some (20, true) }) (v := undef) rfl (by kernel_rfl) (by kernel_rfl) (by kernel_rfl) (fun _ _ _ h => h) (Or.inr ⟨by kernel_rfl, rfl⟩) rfl ?_
          simp only [Act.put, List.setIfInBounds_toArray, List.set_cons_zero, List.set_cons_succ]
          refine wpAnyH_take (i := 24) (oi := { dst := some 101, op := Op.load 5 (Operand.tmp 100), type := 5, pos := "law.go:33", after := #[{ on := 23, ground := Ground.data }, { on := 20, ground := Ground.guard }], guard := some (20, true) }) (v := undef) rfl (by kernel_rfl) (by kernel_rfl) (by kernel_rfl) (fun _ _ _ h => h) (Or.inr ⟨by kernel_rfl, rfl⟩) rfl ?_
          simp only [Act.put, List.setIfInBounds_toArray, List.set_cons_zero, List.set_cons_succ]
          refine wpAnyH_take (i := 25) (oi := { dst := some 102, op := Op.binOp BinOp.neq 5 (Operand.tmp 101) (Operand.const (Value.int IntKind.u8 0)) 5, type := 4, pos := "law.go:33", after := #[{ on := 24, ground := Ground.data }, { on := 20, ground := Ground.guard }], guard := some (20, true) }) (v := undef) rfl (by kernel_rfl) (by kernel_rfl) (by kernel_rfl) (fun _ _ _ h => h) (Or.inr ⟨by kernel_rfl, rfl⟩) rfl ?_
          simp only [Act.put, List.setIfInBounds_toArray, List.set_cons_zero, List.set_cons_succ]
          refine wpAnyH_take (i := 26) (oi := { dst := some 103, op := Op.pick (Operand.tmp 97) (Operand.tmp 102) (Operand.const (Value.bool false)), type := 4, pos := "law.go:33", after := #[{ on := 20, ground := Ground.data }, { on := 25, ground := Ground.data }, { on := 15, ground := Ground.guard }], guard := some (15, false) }) (v := .bool false) rfl (by kernel_rfl) (by kernel_rfl) (by kernel_rfl) (fun _ _ _ h => h) (Or.inl ⟨by kernel_rfl, fun W hSW => by subst hSW; go_simp⟩) rfl ?_
          simp only [Act.put, List.setIfInBounds_toArray, List.set_cons_zero, List.set_cons_succ]
          refine wpAnyH_take (i := 27) (oi := { dst := some 104, op := Op.pick (Operand.tmp 92) (Operand.const (Value.bool true)) (Operand.tmp 103), type := 4, pos := "law.go:33", after := #[{ on := 15, ground := Ground.data }, { on := 26, ground := Ground.data }], guard := none }) (v := .bool false) rfl (by kernel_rfl) (by kernel_rfl) (by kernel_rfl) (fun _ _ _ h => h) (Or.inl ⟨by kernel_rfl, fun W hSW => by subst hSW; go_simp⟩) rfl ?_
          simp only [Act.put, List.setIfInBounds_toArray, List.set_cons_zero, List.set_cons_succ]
          refine wpAnyH_done (by kernel_rfl) ?_ _
          go_wp2_with (fail)
          go_roundw
          case measure => simp [intOf]; omega
          case rel => exact ⟨k + 1, by omega, by go_num, Lib.hid (HF.out.next (below_drewN (Below.refl _ _) 1))⟩
        · have hx : (key ++ List.replicate 80 0).getD k 0 = 0 := by
            rw [List.getD_eq_getElem?_getD, List.getElem?_append_right (by rw [HR.out.1]; omega), List.getElem?_replicate]
            split <;> rfl
          rw [hx] at hc1
          have hnk : n ≤ k := by omega
          clear hx
          go_upto_region 10 with (fail)
          try simp only [Act.put]
          refine wp_region_any (by kernel_rfl) ?_
          change wpAny _ _ _ _ _ _ _ (World.drew _)
          refine wpAny_of_held (S := fun W => W = wr.drew) _ _ _ _ ?_
          refine wpAnyH_take (i := 0) (oi := { dst := some 77, op := Op.move (Operand.tmp 13), type := 3, pos := "law.go:33", after := #[], guard := none }) (v := .int .i64 k) rfl (by kernel_rfl) (by kernel_rfl) (by kernel_rfl) (fun _ _ _ h => h) (Or.inl ⟨by kernel_rfl, fun W hSW => by subst hSW; go_simp⟩) rfl ?_
          simp only [Act.put, List.setIfInBounds_toArray, List.set_cons_zero, List.set_cons_succ]
          refine wpAnyH_take (i := 1) (oi := { dst := some 78, op := Op.move (Operand.tmp 0), type := 22, pos := "law.go:33", after := #[], guard := none }) (v := .slice A n c) rfl (by kernel_rfl) (by kernel_rfl) (by kernel_rfl) (fun _ _ _ h => h) (Or.inl ⟨by kernel_rfl, fun W hSW => by subst hSW; go_simp⟩) rfl ?_
          simp only [Act.put, List.setIfInBounds_toArray, List.set_cons_zero, List.set_cons_succ]
          refine wpAnyH_take (i := 2) (oi := { dst := some 79, op := Op.call { callee := Callee.builtin Builtin.len, args := #[Operand.tmp 78], argTypes := #[22] }, type := 3, pos := "law.go:33", after := #[{ on := 1, ground := Ground.data }], guard := none }) (v := .int .i64 n) rfl (by kernel_rfl) (by kernel_rfl) (by kernel_rfl) (fun _ _ _ h => h) (Or.inl ⟨by kernel_rfl, fun W hSW => by subst hSW; go_simp⟩) rfl ?_
          simp only [Act.put, List.setIfInBounds_toArray, List.set_cons_zero, List.set_cons_succ]
          refine wpAnyH_take (i := 3) (oi := { dst := some 80, op := Op.binOp BinOp.lss 3 (Operand.tmp 77) (Operand.tmp 79) 3, type := 4, pos := "law.go:33", after := #[{ on := 0, ground := Ground.data }, { on := 2, ground := Ground.data }], guard := none }) (v := .bool false) rfl (by kernel_rfl) (by kernel_rfl) (by kernel_rfl) (fun _ _ _ h => h) (Or.inl ⟨by kernel_rfl, fun W hSW => by subst hSW; go_simp⟩) rfl ?_
          simp only [Act.put, List.setIfInBounds_toArray, List.set_cons_zero, List.set_cons_succ]
          refine wpAnyH_take (i := 4) (oi := { dst := some 81, op := Op.move (Operand.tmp 80), type := 4, pos := "law.go:33", after := #[{ on := 3, ground := Ground.data }], guard := none }) (v := .bool false) rfl (by kernel_rfl) (by kernel_rfl) (by kernel_rfl) (fun _ _ _ h => h) (Or.inl ⟨by kernel_rfl, fun W hSW => by subst hSW; go_simp⟩) rfl ?_
          simp only [Act.put, List.setIfInBounds_toArray, List.set_cons_zero, List.set_cons_succ]
          refine wpAnyH_take (i := 5) (oi := { dst := some 82, op := Op.move (Operand.tmp 12), type := 22, pos := "law.go:33", after := #[{ on := 4, ground := Ground.guard }], guard := some (4, true) }) (v := undef) rfl (by kernel_rfl) (by kernel_rfl) (by kernel_rfl) (fun _ _ _ h => h) (Or.inr ⟨by kernel_rfl, rfl⟩) rfl ?_
          simp only [Act.put, List.setIfInBounds_toArray, List.set_cons_zero, List.set_cons_succ]
          refine wpAnyH_take (i := 6) (oi := { dst := some 83, op := Op.move (Operand.tmp 13), type := 3, pos := "law.go:33", after := #[{ on := 4, ground := Ground.guard }], guard := some (4, true) }) (v := undef) rfl (by kernel_rfl) (by kernel_rfl) (by kernel_rfl) (fun _ _ _ h => h) (Or.inr ⟨by kernel_rfl, rfl⟩) rfl ?_
          simp only [Act.put, List.setIfInBounds_toArray, List.set_cons_zero, List.set_cons_succ]
          refine wpAnyH_take (i := 7) (oi := { dst := some 84, op := Op.indexAddr 22 (Operand.tmp 82) (Operand.tmp 83), type := 0, pos := "law.go:33", after := #[{ on := 5, ground := Ground.data }, { on := 6, ground := Ground.data }, { on := 4, ground := Ground.guard }], guard := some (4, true) }) (v := undef) rfl (by kernel_rfl) (by kernel_rfl) (by kernel_rfl) (fun _ _ _ h => h) (Or.inr ⟨by kernel_rfl, rfl⟩) rfl ?_
          simp only [Act.put, List.setIfInBounds_toArray, List.set_cons_zero, List.set_cons_succ]
          refine wpAnyH_take (i := 8) (oi := { dst := some 85, op := Op.load 5 (Operand.tmp 84), type := 5, pos := "law.go:33", after := #[{ on := 7, ground := Ground.data }, { on := 4, ground := Ground.guard }], guard := some (4, true) }) (v := undef) rfl (by kernel_rfl) (by kernel_rfl) (by kernel_rfl) (fun _ _ _ h => h) (Or.inr ⟨by kernel_rfl, rfl⟩) rfl ?_
          simp only [Act.put, List.setIfInBounds_toArray, List.set_cons_zero, List.set_cons_succ]
          refine wpAnyH_take (i := 9) (oi := { dst := some 86, op := Op.move (Operand.tmp 0), type := 22, pos := "law.go:33", after := #[{ on := 4, ground := Ground.guard }], guard := some (4, true) }) (v := undef) rfl (by kernel_rfl) (by kernel_rfl) (by kernel_rfl) (fun _ _ _ h => h) (Or.inr ⟨by kernel_rfl, rfl⟩) rfl ?_
          simp only [Act.put, List.setIfInBounds_toArray, List.set_cons_zero, List.set_cons_succ]
          refine wpAnyH_take (i := 10) (oi := { dst := some 87, op := Op.move (Operand.tmp 13), type := 3, pos := "law.go:33", after := #[{ on := 4, ground := Ground.guard }], guard := some (4, true) }) (v := undef) rfl (by kernel_rfl) (by kernel_rfl) (by kernel_rfl) (fun _ _ _ h => h) (Or.inr ⟨by kernel_rfl, rfl⟩) rfl ?_
          simp only [Act.put, List.setIfInBounds_toArray, List.set_cons_zero, List.set_cons_succ]
          refine wpAnyH_take (i := 11) (oi := { dst := some 88, op := Op.indexAddr 22 (Operand.tmp 86) (Operand.tmp 87), type := 0, pos := "law.go:33", after := #[{ on := 9, ground := Ground.data }, { on := 10, ground := Ground.data }, { on := 4, ground := Ground.guard }], guard := some (4, true) }) (v := undef) rfl (by kernel_rfl) (by kernel_rfl) (by kernel_rfl) (fun _ _ _ h => h) (Or.inr ⟨by kernel_rfl, rfl⟩) rfl ?_
          simp only [Act.put, List.setIfInBounds_toArray, List.set_cons_zero, List.set_cons_succ]
          refine wpAnyH_take (i := 12) (oi := { dst := some 89, op := Op.load 5 (Operand.tmp 88), type := 5, pos := "law.go:33", after := #[{ on := 11, ground := Ground.data }, { on := 4, ground := Ground.guard }], guard := some (4, true) }) (v := undef) rfl (by kernel_rfl) (by kernel_rfl) (by kernel_rfl) (fun _ _ _ h => h) (Or.inr ⟨by kernel_rfl, rfl⟩) rfl ?_
          simp only [Act.put, List.setIfInBounds_toArray, List.set_cons_zero, List.set_cons_succ]
          refine wpAnyH_take (i := 13) (oi := { dst := some 90, op := Op.binOp BinOp.neq 5 (Operand.tmp 85) (Operand.tmp 89) 5, type := 4, pos := "law.go:33", after := #[{ on := 8, ground := Ground.data }, { on := 12, ground := Ground.data }, { on := 4, ground := Ground.guard }], guard := some (4, true) }) (v := undef) rfl (by kernel_rfl) (by kernel_rfl) (by kernel_rfl) (fun _ _ _ h => h) (Or.inr ⟨by kernel_rfl, rfl⟩) rfl ?_
          simp only [Act.put, List.setIfInBounds_toArray, List.set_cons_zero, List.set_cons_succ]
          refine wpAnyH_take (i := 14) (oi := { dst := some 91, op := Op.pick (Operand.tmp 81) (Operand.tmp 90) (Operand.const (Value.bool false)), type := 4, pos := "law.go:33", after := #[{ on := 4, ground := Ground.data }, { on := 13, ground := Ground.data }], guard := none }) (v := .bool false) rfl (by kernel_rfl) (by kernel_rfl) (by kernel_rfl) (fun _ _ _ h => h) (Or.inl ⟨by kernel_rfl, fun W hSW => by subst hSW; go_simp⟩) rfl ?_
          simp only [Act.put, List.setIfInBounds_toArray, List.set_cons_zero, List.set_cons_succ]
          refine wpAnyH_take (i := 15) (oi := { dst := some 92, op := Op.move (Operand.tmp 91), type := 4, pos := "law.go:33", after := #[{ on := 14, ground := Ground.data }, { on := 4, ground := Ground.chain }], guard := none }) (v := .bool false) rfl (by kernel_rfl) (by kernel_rfl) (by kernel_rfl) (fun _ _ _ h => h) (Or.inl ⟨by kernel_rfl, fun W hSW => by subst hSW; go_simp⟩) rfl ?_
          simp only [Act.put, List.setIfInBounds_toArray, List.set_cons_zero, List.set_cons_succ]
          refine wpAnyH_take (i := 16) (oi := { dst := some 93, op := Op.move (Operand.tmp 13), type := 3, pos := "law.go:33", after := #[{ on := 15, ground := Ground.guard }], guard := some (15, false) }) (v := .int .i64 k) rfl (by kernel_rfl) (by kernel_rfl) (by kernel_rfl) (fun _ _ _ h => h) (Or.inl ⟨by kernel_rfl, fun W hSW => by subst hSW; go_simp⟩) rfl ?_
          simp only [Act.put, List.setIfInBounds_toArray, List.set_cons_zero, List.set_cons_succ]
          refine wpAnyH_take (i := 17) (oi := { dst := some 94, op := Op.move (Operand.tmp 0), type := 22, pos := "law.go:33", after := #[{ on := 15, ground := Ground.guard }], guard := some (15, false) }) (v := .slice A n c) rfl (by kernel_rfl) (by kernel_rfl) (by kernel_rfl) (fun _ _ _ h => h) (Or.inl ⟨by kernel_rfl, fun W hSW => by subst hSW; go_simp⟩) rfl ?_
          simp only [Act.put, List.setIfInBounds_toArray, List.set_cons_zero, List.set_cons_succ]
          refine wpAnyH_take (i := 18) (oi := { dst := some 95, op := Op.call { callee := Callee.builtin Builtin.len, args := #[Operand.tmp 94], argTypes := #[22] }, type := 3, pos := "law.go:33", after := #[{ on := 17, ground := Ground.data }, { on := 15, ground := Ground.guard }], guard := some (15, false) }) (v := .int .i64 n) rfl (by kernel_rfl) (by kernel_rfl) (by kernel_rfl) (fun _ _ _ h => h) (Or.inl ⟨by kernel_rfl, fun W hSW => by subst hSW; go_simp⟩) rfl ?_
          simp only [Act.put, List.setIfInBounds_toArray, List.set_cons_zero, List.set_cons_succ]
          refine wpAnyH_take (i := 19) (oi := { dst := some 96, op := Op.binOp BinOp.geq 3 (Operand.tmp 93) (Operand.tmp 95) 3, type := 4, pos := "law.go:33", after := #[{ on := 16, ground := Ground.data }, { on := 18, ground := Ground.data }, { on := 15, ground := Ground.guard }], guard := some (15, false) }) (v := .bool true) rfl (by kernel_rfl) (by kernel_rfl) (by kernel_rfl) (fun _ _ _ h => h) (Or.inl ⟨by kernel_rfl, fun W hSW => by subst hSW; go_simp⟩) rfl ?_
          simp only [Act.put, List.setIfInBounds_toArray, List.set_cons_zero, List.set_cons_succ]
          refine wpAnyH_take (i := 20) (oi := { dst := some 97, op := Op.move (Operand.tmp 96), type := 4, pos := "law.go:33", after := #[{ on := 19, ground := Ground.data }, { on := 15, ground := Ground.chain }, { on := 15, ground := Ground.guard }], guard := some (15, false) }) (v := .bool true) rfl (by kernel_rfl) (by kernel_rfl) (by kernel_rfl) (fun _ _ _ h => h) (Or.inl ⟨by kernel_rfl, fun W hSW => by subst hSW; go_simp⟩) rfl ?_
          simp only [Act.put, List.setIfInBounds_toArray, List.set_cons_zero, List.set_cons_succ]
          refine wpAnyH_take (i := 21) (oi := { dst := some 98, op := Op.move (Operand.tmp 12), type := 22, pos := "law.go:33", after := #[{ on := 20, ground := Ground.guard }], guard := some (20, true) }) (v := .slice (some ⟨w.heap.size, 0, none⟩) (n + 80) (n + 80)) rfl (by kernel_rfl) (by kernel_rfl) (by kernel_rfl) (fun _ _ _ h => h) (Or.inl ⟨by kernel_rfl, fun W hSW => by subst hSW; go_simp⟩) rfl ?_
          simp only [Act.put, List.setIfInBounds_toArray, List.set_cons_zero, List.set_cons_succ]
          refine wpAnyH_take (i := 22) (oi := { dst := some 99, op := Op.move (Operand.tmp 13), type := 3, pos := "law.go:33", after := #[{ on := 20, ground := Ground.guard }], guard := some (20, true) }) (v := .int .i64 k) rfl (by kernel_rfl) (by kernel_rfl) (by kernel_rfl) (fun _ _ _ h => h) (Or.inl ⟨by kernel_rfl, fun W hSW => by subst hSW; go_simp⟩) rfl ?_
          simp only [Act.put, List.setIfInBounds_toArray, List.set_cons_zero, List.set_cons_succ]
          refine wpAnyH_take (i := 23) (oi := { dst := some 100, op := Op.indexAddr 22 (Operand.tmp 98) (Operand.tmp 99), type := 0, pos := "law.go:33", after := #[{ on := 21, ground := Ground.data }, { on := 22, ground := Ground.data }, { on := 20, ground := Ground.guard }], guard := some (20, true) }) (v := .pointer (some ⟨w.heap.size, k, none⟩)) rfl (by kernel_rfl) (by kernel_rfl) (by kernel_rfl) (fun _ _ _ h => h) (Or.inl ⟨by kernel_rfl, fun W hSW => by subst hSW; go_simp⟩) rfl ?_
          simp only [Act.put, List.setIfInBounds_toArray, List.set_cons_zero, List.set_cons_succ]
          refine wpAnyH_take (i := 24) (oi := { dst := some 101, op := Op.load 5 (Operand.tmp 100), type := 5, pos := "law.go:33", after := #[{ on := 23, ground := Ground.data }, { on := 20, ground := Ground.guard }], guard := some (20, true) }) (v := .int .u8 0) rfl (by kernel_rfl) (by kernel_rfl) (by kernel_rfl) (fun _ _ _ h => h) (Or.inl ⟨by kernel_rfl, fun W hSW => by subst hSW; go_simp⟩) rfl ?_
          simp only [Act.put, List.setIfInBounds_toArray, List.set_cons_zero, List.set_cons_succ]
          refine wpAnyH_take (i := 25) (oi := { dst := some 102, op := Op.binOp BinOp.neq 5 (Operand.tmp 101) (Operand.const (Value.int IntKind.u8 0)) 5, type := 4, pos := "law.go:33", after := #[{ on := 24, ground := Ground.data }, { on := 20, ground := Ground.guard }], guard := some (20, true) }) (v := .bool false) rfl (by kernel_rfl) (by kernel_rfl) (by kernel_rfl) (fun _ _ _ h => h) (Or.inl ⟨by kernel_rfl, fun W hSW => by subst hSW; go_simp⟩) rfl ?_
          simp only [Act.put, List.setIfInBounds_toArray, List.set_cons_zero, List.set_cons_succ]
          refine wpAnyH_take (i := 26) (oi := { dst := some 103, op := Op.pick (Operand.tmp 97) (Operand.tmp 102) (Operand.const (Value.bool false)), type := 4, pos := "law.go:33", after := #[{ on := 20, ground := Ground.data }, { on := 25, ground := Ground.data }, { on := 15, ground := Ground.guard }], guard := some (15, false) }) (v := .bool false) rfl (by kernel_rfl) (by kernel_rfl) (by kernel_rfl) (fun _ _ _ h => h) (Or.inl ⟨by kernel_rfl, fun W hSW => by subst hSW; go_simp⟩) rfl ?_
          simp only [Act.put, List.setIfInBounds_toArray, List.set_cons_zero, List.set_cons_succ]
          refine wpAnyH_take (i := 27) (oi := { dst := some 104, op := Op.pick (Operand.tmp 92) (Operand.const (Value.bool true)) (Operand.tmp 103), type := 4, pos := "law.go:33", after := #[{ on := 15, ground := Ground.data }, { on := 26, ground := Ground.data }], guard := none }) (v := .bool false) rfl (by kernel_rfl) (by kernel_rfl) (by kernel_rfl) (fun _ _ _ h => h) (Or.inl ⟨by kernel_rfl, fun W hSW => by subst hSW; go_simp⟩) rfl ?_
          simp only [Act.put, List.setIfInBounds_toArray, List.set_cons_zero, List.set_cons_succ]
          refine wpAnyH_done (by kernel_rfl) ?_ _
          go_wp2_with (fail)
          go_roundw
          case measure => simp [intOf]; omega
          case rel => exact ⟨k + 1, by omega, by go_num, Lib.hid (HF.out.next (below_drewN (Below.refl _ _) 1))⟩
      · obtain rfl : k = n + 80 := by omega
        have hv1 : (convert 22 9 (.slice A1 n' c1)).run Tryd.prog wr = .ok (.string (str b)) wr := run_string HF.out.it
        have hv2 : (convert 22 9 (.slice A' n' c')).run Tryd.prog wr = .ok (.string (str b)) wr := run_string (HR'.out.below HF.out.bel (fun _ h _ => h))
        go_wp2_with (first
          | (go_at_call 8; refine (HW.out wr (HK.out.below HF.out.bel h0) (Nat.lt_of_lt_of_le h0 HF.out.bel.size)).mono ?_; rintro E w7 ⟨rfl, hb7⟩; have HB7 := Lib.hid (HF.out.bel.trans (hb7.mono HF.out.bel.size)); clear hb7))
        go_ret
        exact ⟨rfl, HB7.out⟩
end Go.Proofs.YtfmmldpemdodkaaDoor
