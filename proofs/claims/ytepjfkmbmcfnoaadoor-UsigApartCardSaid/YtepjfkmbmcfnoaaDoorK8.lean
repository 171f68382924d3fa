/-
  What is proved: what read tells of a slot. Conditions as stated.
  What is proved: what refuses, Format, Get do. Conditions as stated.
  What is proved: what Format, greatest, renew do. Conditions as stated.
  What is proved: what greatest and renew do. Conditions as stated.
-/
import Derived.Test.YtepjfkmbmcfnoaaDoorK7

namespace Go.Proofs.YtepjfkmbmcfnoaaDoor
open Go.RowKit
set_option maxRecDepth 100000

/-- A sector's count. -/
def cnt (X : List UInt8) : Nat := Oct.num (X.take 8)
/-- The count of the first k sectors of a slot, and their bytes; none: not whole. -/
def slotGo (s : Dk) (x : Int) : Nat → Option (Nat × List UInt8)
  | 0 => some (0, [])
  | k + 1 => match slotGo s x k with
    | none => none
    | some p => if (s.read (x + k)).2 ≠ 0 then none else if k ≠ 0 ∧ cnt (s.read (x + k)).1 ≠ p.1 then none else some (if k = 0 then cnt (s.read (x + k)).1 else p.1, p.2 ++ (s.read (x + k)).1.drop 8)
theorem slotGo_none {s : Dk} {x : Int} {k : Nat} (h : slotGo s x k = none) : ∀ j, slotGo s x (k + j) = none
  | 0 => h
  | j + 1 => by rw [← Nat.add_assoc, slotGo, slotGo_none h j]
/-- What a slot has: its count and its bytes; the count 0: it is not whole. -/
def slotRes (s : Dk) (x : Int) : Nat × List UInt8 := match slotGo s x 10 with
  | none => (0, [])
  | some p => match contentOf p.2 with
    | none => (0, [])
    | some b => (p.1, b)
theorem slotRes_none {s : Dk} {x : Int} {k : Nat} (hk : k ≤ 10) (h : slotGo s x k = none) : slotRes s x = (0, []) := by
  have := slotGo_none h (10 - k)
  rw [show k + (10 - k) = 10 by omega] at this
  rw [slotRes, this]
theorem read_err {s : Dk} {x : Int} (ho : s.off = false) (hx : 0 ≤ x ∧ x < 32768) : (s.read x).2 = 0 ∨ (s.read x).2 = 9 := by
  have hr : s.refuses x = 0 := by unfold Dk.refuses; rw [ho]; simp; omega
  unfold Dk.read
  rw [if_neg (by simp [hr])]
  split
  · exact .inl rfl
  · split
    · exact .inl rfl
    · exact .inr rfl

theorem wpList_append_oct {w : World} {ops : Array Oper} {rest : List Oper} {o : Oper} {a : Act} {Q : Exit → Act → World → Prop} (hgd : o.guard = none) (s x : Operand)
    (ho : o.op = Op.call { callee := Callee.builtin Builtin.append, args := #[s, x], argTypes := #[29, 29] })
    (B n m c : Nat) (v : Value) (A : Option Addr) (xs bs : List UInt8) (hs : a.eval s = v) (hx : a.eval x = .slice A m c)
    (hown : w.ownsRow B 5 1 v n (u8s xs)) (hr : Oct.Rd w A m bs) (hsl : Oct.Sl A m c) (hB : B ≤ w.heap.size) (hm : n + m ≤ 140737488355328)
    (h : ∀ A' c' w', Hid (w'.ownsRow B 5 1 (.slice A' (n + m) c') (n + m) (u8s (xs ++ bs)) ∧ Oct.Sl A' (n + m) c') → Hid (w.grownBy w' v.ownBlock) → wpList Tryd.prog ops Q rest (a.put o.dst (.slice A' (n + m) c')) w') :
    wpList Tryd.prog ops Q (o :: rest) a w := by
  refine wpList_plain hgd fun K hK => ?_
  have := step_append_oct (ops := ops) (K := K) (Q := Q) (E := True) hgd s x ho B n m c v A xs bs hs hx hown hr hsl hB hm (fun A' c' w' h1 h2 => hK _ _ (h A' c' w' h1 h2))
  rwa [if_pos (by simp [Region.wanted, hgd])] at this

set_option maxHeartbeats 4000000 in
theorem slot_read {w wo : World} {d T : Nat} {s : Dk} {L : List (Nat × Obj)} (h : Dat w d T s L wo) (hoff : s.off = false) (at' slot : Int) (hat : 0 ≤ at' ∧ at' ≤ 32748) (hsl : 0 ≤ slot ∧ slot ≤ 1) :
    Calls Tryd.prog 42 #[.agg #[.pointer (some ⟨d, 0, none⟩), .int .i64 at'], .int .i64 slot] wo fun E w' => ∃ A m c, E = .returned (.tuple #[.int .u64 ((slotRes s (at' + slot * 10)).1 : Int), .slice A m c, .int .i64 0]) ∧ Below wo.heap.size wo w' ∧
      Oct.Sl A m c ∧ w'.ownsRow wo.heap.size 5 1 (.slice A m c) m (u8s (slotRes s (at' + slot * 10)).2) := by
  have HD := Lib.hid h
  have HNIL : Hid (∀ w', Oct.Sl none 0 0 ∧ World.ownsRow w' wo.heap.size 5 1 (.slice none 0 0) 0 (u8s [])) := Lib.hid fun w' => ⟨⟨fun _ => ⟨rfl, rfl⟩, Nat.le_refl _, by omega⟩, World.ownsRow_nil _ _ _ _⟩
  have HE : Hid (∀ k : Nat, k < 10 → (s.read (at' + slot * 10 + k)).2 = 0 ∨ (s.read (at' + slot * 10 + k)).2 = 9) := Lib.hid fun k hk => read_err hoff (by omega)
  have HRL : Hid (∀ y, (s.read y).1.length = 128) := Lib.hid fun y => h.read_len y
  clear h
  obtain ⟨Z, hZ⟩ : ∃ Z, Z = u8s zeros := ⟨_, rfl⟩
  have hz : ∀ w, (zeroValue 61).run Tryd.prog w = .ok (.agg Z.toArray) w := by rw [hZ]; exact zero33
  have ZL : Hid (Z.length = 128) := Lib.hid (by rw [hZ, u8s_length]; rfl)
  clear hZ
  go_enter Tryd.func42, Tryd.ntmps42
  go_wp2_with fail
  have HQ : Hid (Below wo.heap.size wo (wo.alloc (.cells #[.pointer (some ⟨d, 0, none⟩), .int .i64 at'] 86))) := Lib.hid ((Below.refl _ _).alloc (Nat.le_refl _) _)
  have HQB : Hid ((wo.alloc (.cells #[.pointer (some ⟨d, 0, none⟩), .int .i64 at'] 86)).heap[wo.heap.size]? = some (.cells #[.pointer (some ⟨d, 0, none⟩), .int .i64 at'] 86 (0, 0))) := Lib.hid (heap_alloc_new _ _)
  go_loopw [7, 8, 16] (fun v7 v8 v16 wr => ∃ k : Nat, k ≤ 10 ∧ v16 = .int .i64 (k : Int) ∧ ∃ p : Nat × List UInt8, Hid (slotGo s (at' + slot * 10) k = some p) ∧ v7 = .int .u64 (p.1 : Int) ∧ ∃ A m c, v8 = .slice A m c ∧ Hid (m = 120 * k ∧ Oct.Sl A m c ∧ wr.ownsRow (wo.heap.size + 1) 5 1 (.slice A m c) m (u8s p.2)) ∧ Hid (Below wo.heap.size wo wr) ∧ Hid (wr.heap[wo.heap.size]? = some (.cells #[.pointer (some ⟨d, 0, none⟩), .int .i64 at'] 86 (0, 0)))) (fun _ _ v16 _ => 10 - (intOf v16).toNat)
  case atStart => exact ⟨0, by omega, rfl, (0, []), Lib.hid rfl, rfl, none, 0, 0, rfl, ⟨rfl, ⟨fun _ => ⟨rfl, rfl⟩, Nat.le_refl _, by omega⟩, World.ownsRow_nil _ _ _ _⟩, HQ, HQB⟩
  case round =>
    clear HQ HQB
    obtain ⟨k, hk, rfl, p, HP, rfl, A, m, c, rfl, HM, HB, HQB⟩ := hrel
    by_cases hkk : k < 10
    · have hmk := HM.out.1
      subst hmk
      have c0 : wr.cell? ⟨wo.heap.size, 0, none⟩ = some (.pointer (some ⟨d, 0, none⟩)) := block_cell (C := [.pointer (some ⟨d, 0, none⟩), .int .i64 at']) HQB.out 0 _ rfl
      have c1 : wr.cell? ⟨wo.heap.size, 1, none⟩ = some (.int .i64 at') := block_cell (C := [.pointer (some ⟨d, 0, none⟩), .int .i64 at']) HQB.out 1 _ rfl
      obtain ⟨X, hX⟩ : ∃ X, X = (s.read (at' + slot * 10 + k)).1 := ⟨_, rfl⟩
      obtain ⟨e, he⟩ : ∃ e, e = (s.read (at' + slot * 10 + k)).2 := ⟨_, rfl⟩
      have hXl : X.length = 128 := by rw [hX]; exact HRL.out _
      have UX : Hid ((u8s X).length = 128) := Lib.hid (by rw [u8s_length, hXl])
      have XL := Lib.hid hXl
      have HR : Hid (Calls Tryd.prog 64 #[.pointer (some ⟨d, 0, none⟩), .int .i64 (at' + slot * 10 + k)] wr fun E w' => E = .returned (.tuple #[.agg (u8s X).toArray, .int .i64 e]) ∧ Below wr.heap.size wr w') := Lib.hid (by rw [hX, he]; exact (dat_read (HD.out.next HB.out) _ (i64_of (by omega))).mono fun E w' h => ⟨h.1, h.2.2⟩)
      have h09 : e = 0 ∨ e = 9 := by rw [he]; exact HE.out k hkk
      have HNX : Hid (slotGo s (at' + slot * 10) (k + 1) = if e ≠ 0 then none else if k ≠ 0 ∧ cnt X ≠ p.1 then none else some (if k = 0 then cnt X else p.1, p.2 ++ X.drop 8)) := Lib.hid (by rw [slotGo, HP.out, hX, he])
      obtain ⟨Y, hY⟩ : ∃ Y, Y = X.drop 8 := ⟨_, rfl⟩
      have hYl : Y.length = 120 := by rw [hY, List.length_drop, hXl]
      rw [← hY] at HNX
      have hw8 := tk_nat (rem := X) (k := 8) (by omega)
      have hf8 := fits_nat (rem := X) (k := 8) (by omega)
      have HWD : Hid (∀ (lo g : Nat) (wx : World), Oct.CutAt wx lo g X false → Calls Tryd.prog 54 #[.pointer (some ⟨g, 0, none⟩)] wx fun E w' => E = .returned (.int .u64 (cnt X : Int)) ∧ Oct.CutAt w' lo g Y false ∧ wx.grownBy w' (some g)) := Lib.hid fun lo g wx h => by
        have := Oct.word_cut g X false wx h
        rw [show (8 : Int) = ((8 : Nat) : Int) from rfl, hw8.1, hw8.2, hf8, ← hY] at this
        exact this
      have hq5 := tk_nat (rem := Y) (k := Y.length) (Nat.le_refl _)
      have HRW : Hid (∀ (lo g : Nat) (wx : World), Oct.CutAt wx lo g Y false → Calls Tryd.prog 55 #[.pointer (some ⟨g, 0, none⟩), .int .i64 120] wx fun E w' => ∃ A' m c', E = .returned (.slice A' m c') ∧ Hid (m = 120 ∧ w'.ownsRow wx.heap.size 5 1 (.slice A' m c') m (u8s Y) ∧ Oct.Sl A' m c') ∧ wx.grownBy w' (some g)) := Lib.hid fun lo g wx h => by
        have := Oct.raw_cut g Y false (Y.length : Int) wx h
        rw [hq5.1, List.take_length, hYl] at this
        exact this.mono fun E w' ⟨A', m, c', h1, h2, _, h4⟩ => ⟨A', m, c', h1, h2, h4⟩
      have HLF : Hid (∀ (lo g : Nat) (wx : World), Oct.CutAt wx lo g Y false → Calls Tryd.prog 56 #[.pointer (some ⟨g, 0, none⟩)] wx fun E w' => E = .returned (.int .i64 120) ∧ ∃ q, w' = wx.drewN q) := Lib.hid fun lo g wx h => by
        have := Oct.left_any g Y false wx h
        rw [hYl] at this
        exact this
      have HCN : Hid (cnt X < 18446744073709551616) := Lib.hid (by unfold cnt; have := Oct.num_lt 8 (X.take 8) (by rw [List.length_take]; omega); exact this)
      clear hX he hXl hY hYl hw8 hf8 hq5 HRL
      generalize cnt X = cX at HNX HWD HCN
      rcases h09 with h0 | h9
      · subst h0
        go_wp2_with (first
          | (go_at_call 64; refine HR.out.mono ?_; rintro E w1 ⟨rfl, hb1⟩)
          | (refine wpList_store_all rfl 61 (.tmp 10) (.tmp 30) rfl w1.heap.size Z (u8s X) 61 (row_new w1 Z 61) (ZL.out.trans UX.out.symm) rfl rfl (by rw [UX.out]; exact Tryd.size61) (u8s_one _) ?_; intro w2 G2))
        have B2 : Hid (Below wr.heap.size wr w2) := Lib.hid ((hb1.alloc hb1.size _).grown G2.out.2 (by simp; exact Nat.le_succ_of_le hb1.size) (fun k e => by injection e with e; subst e; exact hb1.size))
        clear hb1
        have QR : Hid (Oct.Rd w2 (some ⟨w1.heap.size, 0, none⟩) 128 X) := Lib.hid ⟨XL.out, fun _ => ⟨w1.heap.size, 0, rfl, (Array.getElem?_eq_some_iff.1 G2.out.1).1, fun j u hu => by rw [Nat.zero_add]; exact block_cell G2.out.1 j _ (by simp [u8s, hu])⟩⟩
        clear G2
        refine (Oct.new_any (some ⟨w1.heap.size, 0, none⟩) 128 128 X w2 QR.out ⟨(fun h => by cases h), Nat.le_refl _, by omega⟩ (by omega)).mono ?_
        rintro E w3 ⟨g, rfl, hg, hcut, hb3⟩
        have B3 : Hid (Below wr.heap.size wr w3) := Lib.hid (B2.out.trans (hb3.mono B2.out.size))
        have HG : Hid (wr.heap.size ≤ g) := Lib.hid (Nat.le_trans B2.out.size hg)
        have HCT := Lib.hid hcut
        clear hg hcut hb3 B2 QR
        go_wp2_with fail
        refine (HWD.out _ _ _ HCT.out).mono ?_
        rintro E w4 ⟨rfl, hcut4, hg4⟩
        have B4 : Hid (Below wr.heap.size wr w4) := Lib.hid (below_gb' B3.out hg4 HG.out B3.out.size)
        have HC4 := Lib.hid hcut4
        clear hcut4 hg4 HCT B3
        by_cases hk0 : k = 0
        · subst hk0
          have HNX2 : Hid (slotGo s (at' + slot * 10) (0 + 1) = some (cX, p.2 ++ Y)) := Lib.hid (by rw [HNX.out, if_neg (by simp), if_neg (by simp), if_pos rfl])
          go_wp2_with fail
          refine (HLF.out _ _ _ HC4.out).mono ?_
          rintro E w5 ⟨rfl, q, rfl⟩
          go_wp2_with fail
          refine (HRW.out _ _ _ (HC4.out.drewN q)).mono ?_
          rintro E w6 ⟨A2, m2, c2, rfl, h6, hg6⟩
          obtain rfl : m2 = 120 := h6.out.1
          have B6 : Hid (Below wr.heap.size wr w6) := Lib.hid (below_gb' (B4.out.trans (c := w4.drewN q) ⟨rfl, rfl, rfl, Nat.le_refl _, fun _ _ => rfl⟩) hg6 HG.out B4.out.size)
          have R6 : Hid (Oct.Rd w6 A2 120 Y ∧ Oct.Sl A2 120 c2) := Lib.hid ⟨Oct.Rd.of_own h6.out.2.1, h6.out.2.2⟩
          clear h6 hg6 HC4 B4
          have O6 : Hid (w6.ownsRow (wo.heap.size + 1) 5 1 (.slice A (0) c) (0) (u8s p.2)) := Lib.hid (own_below HM.out.2.2 B6.out)
          have HLT : Hid (wo.heap.size + 1 ≤ w6.heap.size) := Lib.hid (by have h1 := (Array.getElem?_eq_some_iff.1 HQB.out).1; have h2 := B6.out.size; omega)
          go_wp2_with (first
            | (at_builtin; go_must (refine wpList_append_oct rfl (.tmp 47) (.tmp 51) rfl (wo.heap.size + 1) (0) 120 c2 (.slice A (0) c) A2 p.2 Y rfl rfl O6.out R6.out.1 R6.out.2 HLT.out (by omega) ?_); intro A7 c7 w7 h7 hg7))
          have B7 : Hid (Below wo.heap.size wo w7) := Lib.hid ((HB.out.trans (B6.out.mono HB.out.size)).grown hg7.out (by have := HLT.out; omega) (fun g e => by have := (own_lt O6.out g e).1; omega))
          have Q7 : Hid (w7.heap[wo.heap.size]? = some (.cells #[.pointer (some ⟨d, 0, none⟩), .int .i64 at'] 86 (0, 0))) := Lib.hid ((hg7.out.block _ (by have := HLT.out; omega) (fun e => by have := (own_lt O6.out _ e.symm).1; omega)).trans ((B6.out.block _ (Array.getElem?_eq_some_iff.1 HQB.out).1).trans HQB.out))
          clear hg7 O6 R6
          go_roundw
          case measure => simp [intOf] <;> omega
          case rel => exact ⟨0 + 1, by omega, by go_num, (cX, p.2 ++ Y), HNX2, rfl, A7, 0 + 120, c7, rfl, ⟨by omega, h7.out.2, h7.out.1⟩, B7, Q7⟩
        · by_cases hcx : cX = p.1
          · subst hcx
            have HNX2 : Hid (slotGo s (at' + slot * 10) (k + 1) = some (p.1, p.2 ++ Y)) := Lib.hid (by rw [HNX.out, if_neg (by simp), if_neg (by simp), if_neg hk0])
            go_wp2_with fail
            refine (HLF.out _ _ _ HC4.out).mono ?_
            rintro E w5 ⟨rfl, q, rfl⟩
            go_wp2_with fail
            refine (HRW.out _ _ _ (HC4.out.drewN q)).mono ?_
            rintro E w6 ⟨A2, m2, c2, rfl, h6, hg6⟩
            obtain rfl : m2 = 120 := h6.out.1
            have B6 : Hid (Below wr.heap.size wr w6) := Lib.hid (below_gb' (B4.out.trans (c := w4.drewN q) ⟨rfl, rfl, rfl, Nat.le_refl _, fun _ _ => rfl⟩) hg6 HG.out B4.out.size)
            have R6 : Hid (Oct.Rd w6 A2 120 Y ∧ Oct.Sl A2 120 c2) := Lib.hid ⟨Oct.Rd.of_own h6.out.2.1, h6.out.2.2⟩
            clear h6 hg6 HC4 B4
            have O6 : Hid (w6.ownsRow (wo.heap.size + 1) 5 1 (.slice A (120 * k) c) (120 * k) (u8s p.2)) := Lib.hid (own_below HM.out.2.2 B6.out)
            have HLT : Hid (wo.heap.size + 1 ≤ w6.heap.size) := Lib.hid (by have h1 := (Array.getElem?_eq_some_iff.1 HQB.out).1; have h2 := B6.out.size; omega)
            go_wp2_with (first
              | (at_builtin; go_must (refine wpList_append_oct rfl (.tmp 47) (.tmp 51) rfl (wo.heap.size + 1) (120 * k) 120 c2 (.slice A (120 * k) c) A2 p.2 Y rfl rfl O6.out R6.out.1 R6.out.2 HLT.out (by omega) ?_); intro A7 c7 w7 h7 hg7))
            have B7 : Hid (Below wo.heap.size wo w7) := Lib.hid ((HB.out.trans (B6.out.mono HB.out.size)).grown hg7.out (by have := HLT.out; omega) (fun g e => by have := (own_lt O6.out g e).1; omega))
            have Q7 : Hid (w7.heap[wo.heap.size]? = some (.cells #[.pointer (some ⟨d, 0, none⟩), .int .i64 at'] 86 (0, 0))) := Lib.hid ((hg7.out.block _ (by have := HLT.out; omega) (fun e => by have := (own_lt O6.out _ e.symm).1; omega)).trans ((B6.out.block _ (Array.getElem?_eq_some_iff.1 HQB.out).1).trans HQB.out))
            clear hg7 O6 R6
            go_roundw
            case measure => simp [intOf] <;> omega
            case rel => exact ⟨k + 1, by omega, by go_num, (p.1, p.2 ++ Y), HNX2, rfl, A7, 120 * k + 120, c7, rfl, ⟨by omega, h7.out.2, h7.out.1⟩, B7, Q7⟩
          · have HS := Lib.hid (slotRes_none hkk (show slotGo s (at' + slot * 10) (k + 1) = none by rw [HNX.out, if_neg (by simp), if_pos ⟨hk0, hcx⟩]))
            go_wp2_with fail
            go_ret3
            exact ⟨none, 0, 0, by rw [HS.out]; rfl, HB.out.trans (B4.out.mono HB.out.size), (HNIL.out wo).1, by rw [HS.out]; exact (HNIL.out _).2⟩
      · subst h9
        have hn : slotGo s (at' + slot * 10) (k + 1) = none := by rw [HNX.out]; rfl
        have HS := Lib.hid (slotRes_none hkk hn)
        clear hn
        go_wp2_with (first
          | (go_at_call 64; refine HR.out.mono ?_; rintro E w1 ⟨rfl, hb1⟩)
          | (refine wpList_store_all rfl 61 (.tmp 10) (.tmp 30) rfl w1.heap.size Z (u8s X) 61 (row_new w1 Z 61) (ZL.out.trans UX.out.symm) rfl rfl (by rw [UX.out]; exact Tryd.size61) (u8s_one _) ?_; intro w2 G2))
        have B2 : Hid (Below wr.heap.size wr w2) := Lib.hid ((hb1.alloc hb1.size _).grown G2.out.2 (by simp; exact Nat.le_succ_of_le hb1.size) (fun k e => by injection e with e; subst e; exact hb1.size))
        go_ret3
        exact ⟨none, 0, 0, by rw [HS.out]; rfl, HB.out.trans (B2.out.mono HB.out.size), (HNIL.out wo).1, by rw [HS.out]; exact (HNIL.out _).2⟩
    · obtain rfl : k = 10 := by omega
      have HRS : Hid (slotRes s (at' + slot * 10) = match contentOf p.2 with | none => (0, []) | some b => (p.1, b)) := Lib.hid (by rw [slotRes, HP.out])
      have HCA := Lib.hid (content_any A m c p.2 wr (Oct.Rd.of_own HM.out.2.2) HM.out.2.1 (by rw [HM.out.1]))
      generalize contentOf p.2 = ct at HRS HCA
      clear HM HQB
      go_wp2_with fail
      refine HCA.out.mono ?_
      rintro E w8 ⟨A8, m8, c8, rfl, hb8, hs8, ho8⟩
      have B8 : Hid (Below wo.heap.size wo w8) := Lib.hid (HB.out.trans (hb8.mono HB.out.size))
      have H8 := Lib.hid hs8
      have O8 := Lib.hid (own_base ho8 HB.out.size)
      clear hb8 hs8 ho8
      cases ct with
      | none =>
        go_wp2_with fail
        go_ret3
        exact ⟨none, 0, 0, by rw [HRS.out]; rfl, B8.out, (HNIL.out wo).1, by rw [HRS.out]; exact (HNIL.out _).2⟩
      | some b =>
        go_wp2_with fail
        go_ret3
        exact ⟨A8, m8, c8, by rw [HRS.out]; rfl, B8.out, H8.out, by rw [HRS.out]; exact O8.out⟩
end Go.Proofs.YtepjfkmbmcfnoaaDoor

namespace Go.Proofs.YtepjfkmbmcfnoaaDoor
open Go.RowKit
set_option maxRecDepth 100000

theorem refuses_cell {w : World} (d : Nat) (x : Int) (hx : 0 ≤ x ∧ x ≤ 32748) : Calls Tryd.prog 41 #[.agg #[.pointer (some ⟨d, 0, none⟩), .int .i64 x]] w fun E w' => E = .returned (.int .i64 0) ∧ Below w.heap.size w w' := by
  go_enter Tryd.func41, Tryd.ntmps41
  go_wp2
  go_ret
  exact ⟨rfl, (Below.refl _ _).alloc (Nat.le_refl _) _⟩
theorem nil_refuses_cell {w : World} (x : Int) : Calls Tryd.prog 41 #[.agg #[.pointer none, .int .i64 x]] w fun E w' => E = .returned (.int .i64 2) ∧ Below w.heap.size w w' := by
  go_enter Tryd.func41, Tryd.ntmps41
  go_wp2
  go_ret
  exact ⟨rfl, (Below.refl _ _).alloc (Nat.le_refl _) _⟩

/-! ### Get -/
def cellOf (d : Nat) (at' : Int) (A : Option Addr) (n c : Nat) (slot : Int) (failed : Bool) : Obj := .cells #[.pointer (some ⟨d, 0, none⟩), .int .i64 at', .slice A n c, .int .i64 slot, .bool failed] 89 (0, 0)
theorem cellOf_cells {w : World} {g d : Nat} {at' : Int} {A : Option Addr} {n c : Nat} {slot : Int} {failed : Bool} (h : w.heap[g]? = some (cellOf d at' A n c slot failed)) :
    w.cell? ⟨g, 0, none⟩ = some (.pointer (some ⟨d, 0, none⟩)) ∧ w.cell? ⟨g, 1, none⟩ = some (.int .i64 at') ∧ w.cell? ⟨g, 2, none⟩ = some (.slice A n c) ∧ w.cell? ⟨g, 3, none⟩ = some (.int .i64 slot) ∧ w.cell? ⟨g, 4, none⟩ = some (.bool failed) := by
  have h' : w.heap[g]? = some (.cells [.pointer (some ⟨d, 0, none⟩), .int .i64 at', .slice A n c, .int .i64 slot, .bool failed].toArray 89 (0, 0)) := h
  exact ⟨block_cell h' 0 _ rfl, block_cell h' 1 _ rfl, block_cell h' 2 _ rfl, block_cell h' 3 _ rfl, block_cell h' 4 _ rfl⟩
theorem get_any {w : World} {g d : Nat} {at' : Int} {A : Option Addr} {n c : Nat} {slot : Int} {failed : Bool} (h : w.heap[g]? = some (cellOf d at' A n c slot failed)) (bs : List UInt8) (hr : Oct.Rd w A n bs) (hs : Oct.Sl A n c) (hn : n ≤ 1100) :
    Calls Tryd.prog 52 #[.pointer (some ⟨g, 0, none⟩)] w fun E w' => ∃ A' c', E = .returned (.slice A' n c') ∧ w'.ownsRow w.heap.size 5 1 (.slice A' n c') n (u8s bs) ∧ Oct.Sl A' n c' ∧ Below w.heap.size w w' := by
  obtain ⟨-, -, c2, -⟩ := cellOf_cells h
  have HC := Lib.hid (Oct.clone_any A n c bs w hr hs (by omega))
  clear h hr hs
  go_enter Tryd.func52, Tryd.ntmps52
  go_wp2_with (first | (go_at_call 44; refine HC.out.mono ?_; rintro E w1 ⟨A', c', rfl, ho, hsl, hb⟩))
  go_ret
  exact ⟨A', c', rfl, ho, hsl, hb⟩
theorem nil_get (w : World) : Calls Tryd.prog 52 #[.pointer none] w fun E w' => E = .returned (.slice none 0 0) ∧ w = w' := by
  go_enter Tryd.func52, Tryd.ntmps52
  go_wp2
  go_ret
  exact ⟨rfl, rfl⟩
theorem nil_put (A : Option Addr) (n c : Nat) (w : World) : Calls Tryd.prog 22 #[.pointer none, .slice A n c] w fun E w' => E = .returned (.int .i64 2) ∧ w = w' := by
  go_enter Tryd.func22, Tryd.ntmps22
  go_wp2
  go_ret
  exact ⟨rfl, rfl⟩

/-! ### Format -/
theorem nil_format (x : Int) (w : World) : Calls Tryd.prog 26 #[.pointer none, .int .i64 x] w fun E w' => E = .returned (.int .i64 2) ∧ Below w.heap.size w w' := by
  go_enter Tryd.func26, Tryd.ntmps26
  go_wp2_with (first | (go_at_call 41; refine (nil_refuses_cell x).mono ?_; rintro E w1 ⟨rfl, hb⟩))
  go_ret
  exact ⟨rfl, ((Below.refl _ w).alloc (Nat.le_refl _) _).trans (hb.mono (by simp))⟩
theorem nil_open (x : Int) (w : World) : Calls Tryd.prog 21 #[.pointer none, .int .i64 x] w fun E w' => E = .returned (.tuple #[.pointer none, .int .i64 2]) ∧ Below w.heap.size w w' := by
  go_enter Tryd.func21, Tryd.ntmps21
  go_wp2_with (first | (go_at_call 41; refine (nil_refuses_cell x).mono ?_; rintro E w1 ⟨rfl, hb⟩))
  go_ret2
  exact ⟨rfl, ((Below.refl _ w).alloc (Nat.le_refl _) _).trans (hb.mono (by simp))⟩
end Go.Proofs.YtepjfkmbmcfnoaaDoor

namespace Go.Proofs.YtepjfkmbmcfnoaaDoor
open Go.RowKit
set_option maxRecDepth 100000

theorem Dat.sub {w wr : World} {d T : Nat} {s : Dk} {L L' : List (Nat × Obj)} (h : Dat w d T s L wr) (hs : ∀ p ∈ L', p ∈ L) : Dat w d T s L' wr := keeps_dat.toKeep.sub h hs
theorem src_nil (w : World) (L : List (Nat × Obj)) : Src w L none 0 [] := fun _ _ _ => ⟨rfl, fun h => absurd h (by omega)⟩
theorem sl_nil : Oct.Sl none 0 0 := ⟨fun _ => ⟨rfl, rfl⟩, Nat.le_refl _, by omega⟩

theorem idx0 (w : World) : (Instr.index 55 (.agg #[.int .u64 2, .int .u64 1]) (.int .i64 0)).run Tryd.prog w = .ok (.int .u64 2) w := by kernel_rfl
theorem idx1 (w : World) : (Instr.index 55 (.agg #[.int .u64 2, .int .u64 1]) (.int .i64 1)).run Tryd.prog w = .ok (.int .u64 1) w := by kernel_rfl

set_option maxHeartbeats 4000000 in
theorem format_any {w wr : World} {d T : Nat} {s s1 s2 s3 : Dk} {L : List (Nat × Obj)} (h : Dat w d T s L wr) (hT : T < 10000000) (at' : Int) (hat : 0 ≤ at' ∧ at' ≤ 32748)
    (h1 : wrs s at' (sect 2 []) 10 = (s1, 0)) (h2 : wrs s1 (at' + 10) (sect 1 []) 10 = (s2, 0)) (h3 : s2.sync = (s3, 0)) :
    Calls Tryd.prog 26 #[.pointer (some ⟨d, 0, none⟩), .int .i64 at'] wr fun E w' => E = .returned (.int .i64 0) ∧ Dat w d (T + 20) s3 L w' := by
  have HD' : Hid (Dat w d T s ((wr.heap.size, .cells #[.pointer (some ⟨d, 0, none⟩), .int .i64 at'] 86 (0, 0)) :: L) (wr.alloc (.cells #[.pointer (some ⟨d, 0, none⟩), .int .i64 at'] 86))) := Lib.hid (h.alloc _)
  have HRF := Lib.hid (fun wx => refuses_cell (w := wx) d at' hat)
  generalize hq : wr.heap.size = q at HD'
  have HW0 : Hid (∀ W, Dat w d T s ((q, .cells #[.pointer (some ⟨d, 0, none⟩), .int .i64 at'] 86 (0, 0)) :: L) W → Calls Tryd.prog 49 #[.agg #[.pointer (some ⟨d, 0, none⟩), .int .i64 at'], .int .i64 0, .int .u64 2, .slice none 0 0] W fun E w' =>
      E = .returned (.int .i64 0) ∧ Dat w d (T + 10) s1 ((q, .cells #[.pointer (some ⟨d, 0, none⟩), .int .i64 at'] 86 (0, 0)) :: L) w') := Lib.hid fun W hW => by
    have := slot_write hW (by omega) at' 0 hat (by omega) 2 none 0 0 [] (src_nil _ _) sl_nil (by omega)
    rw [show at' + 0 * 10 = at' by omega, h1] at this
    exact this
  have HW1 : Hid (∀ W, Dat w d (T + 10) s1 ((q, .cells #[.pointer (some ⟨d, 0, none⟩), .int .i64 at'] 86 (0, 0)) :: L) W → Calls Tryd.prog 49 #[.agg #[.pointer (some ⟨d, 0, none⟩), .int .i64 at'], .int .i64 1, .int .u64 1, .slice none 0 0] W fun E w' =>
      E = .returned (.int .i64 0) ∧ Dat w d (T + 20) s2 ((q, .cells #[.pointer (some ⟨d, 0, none⟩), .int .i64 at'] 86 (0, 0)) :: L) w') := Lib.hid fun W hW => by
    have := slot_write hW (by omega) at' 1 hat (by omega) 1 none 0 0 [] (src_nil _ _) sl_nil (by omega)
    rw [show at' + 1 * 10 = at' + 10 by omega, h2] at this
    exact this
  have HS : Hid (∀ W, Dat w d (T + 20) s2 L W → Calls Tryd.prog 50 #[.pointer (some ⟨d, 0, none⟩)] W fun E w' => E = .returned (.int .i64 0) ∧ Dat w d (T + 20) s3 L w') := Lib.hid fun W hW => by
    have := dat_sync hW (by omega)
    rw [h3] at this
    exact this
  clear h h1 h2 h3
  go_enter Tryd.func26, Tryd.ntmps26
  go_wp2_with fail
  refine (HRF.out _).mono ?_
  rintro E w1 ⟨rfl, hb⟩
  have D1 := Lib.hid (HD'.out.next hb)
  clear hb HD' HRF
  go_wp2_with fail
  go_loopw [19] (fun v19 wx => (v19 = .int .i64 0 ∧ Hid (Dat w d T s ((q, .cells #[.pointer (some ⟨d, 0, none⟩), .int .i64 at'] 86 (0, 0)) :: L) wx)) ∨ (v19 = .int .i64 1 ∧ Hid (Dat w d (T + 10) s1 ((q, .cells #[.pointer (some ⟨d, 0, none⟩), .int .i64 at'] 86 (0, 0)) :: L) wx)) ∨
      (v19 = .int .i64 2 ∧ Hid (Dat w d (T + 20) s2 ((q, .cells #[.pointer (some ⟨d, 0, none⟩), .int .i64 at'] 86 (0, 0)) :: L) wx))) (fun v19 _ => 2 - (intOf v19).toNat)
  case atStart => exact .inl ⟨rfl, D1⟩
  case round =>
    clear D1
    rcases hrel with ⟨rfl, DA⟩ | ⟨rfl, DA⟩ | ⟨rfl, DA⟩
    · have c0 := block_cell (C := [.pointer (some ⟨d, 0, none⟩), .int .i64 at']) (DA.out.get (q := q) (.head _)) 0 _ rfl
      have c1 := block_cell (C := [.pointer (some ⟨d, 0, none⟩), .int .i64 at']) (DA.out.get (q := q) (.head _)) 1 _ rfl
      have hix := idx0
      subst hq
      go_wp2_with fail
      refine (HW0.out _ DA.out).mono ?_
      rintro E w2 ⟨rfl, h2⟩
      have D2 := Lib.hid h2
      clear h2 c0 c1 DA
      go_wp2_with fail
      go_roundw
      case measure => simp [intOf]
      case rel => exact .inr (.inl ⟨rfl, D2⟩)
    · have c0 := block_cell (C := [.pointer (some ⟨d, 0, none⟩), .int .i64 at']) (DA.out.get (q := q) (.head _)) 0 _ rfl
      have c1 := block_cell (C := [.pointer (some ⟨d, 0, none⟩), .int .i64 at']) (DA.out.get (q := q) (.head _)) 1 _ rfl
      have hix := idx1
      subst hq
      go_wp2_with fail
      refine (HW1.out _ DA.out).mono ?_
      rintro E w2 ⟨rfl, h2⟩
      have D2 := Lib.hid h2
      clear h2 c0 c1 DA
      go_wp2_with fail
      go_roundw
      case measure => simp [intOf]
      case rel => exact .inr (.inr ⟨rfl, D2⟩)
    · go_wp2_with fail
      refine (HS.out _ DA.out.drop).mono ?_
      rintro E w2 ⟨rfl, h2⟩
      go_wp2_with fail
      go_ret
      exact ⟨rfl, h2⟩
end Go.Proofs.YtepjfkmbmcfnoaaDoor

namespace Go.Proofs.YtepjfkmbmcfnoaaDoor
open Go.RowKit
set_option maxRecDepth 100000

/-- The greatest count that can be read in the first k sectors from x on. -/
def topGo (s : Dk) (x : Int) : Nat → Nat
  | 0 => 0
  | k + 1 => max (topGo s x k) (if (s.read (x + k)).2 = 0 then cnt (s.read (x + k)).1 else 0)
theorem cnt_lt (X : List UInt8) : cnt X < 18446744073709551616 := by
  unfold cnt
  have := Oct.num_lt _ (X.take 8) rfl
  refine Nat.lt_of_lt_of_le this (show 256 ^ (X.take 8).length ≤ 256 ^ 8 from Nat.pow_le_pow_right (by decide) (by rw [List.length_take]; omega))
theorem topGo_lt (s : Dk) (x : Int) : ∀ k, topGo s x k < 18446744073709551616
  | 0 => by simp [topGo]
  | k + 1 => by
    have h1 := topGo_lt s x k
    have h2 := cnt_lt (s.read (x + k)).1
    rw [topGo]
    split <;> omega

set_option maxHeartbeats 4000000 in
theorem greatest_any {w wo : World} {d T : Nat} {s : Dk} {L : List (Nat × Obj)} (h : Dat w d T s L wo) (hoff : s.off = false) (at' : Int) (hat : 0 ≤ at' ∧ at' ≤ 32748) :
    Calls Tryd.prog 66 #[.agg #[.pointer (some ⟨d, 0, none⟩), .int .i64 at']] wo fun E w' => E = .returned (.tuple #[.int .u64 (topGo s at' 20 : Int), .int .i64 0]) ∧ Below wo.heap.size wo w' := by
  have HD := Lib.hid h
  have HE : Hid (∀ k : Nat, k < 20 → (s.read (at' + k)).2 = 0 ∨ (s.read (at' + k)).2 = 9) := Lib.hid fun k hk => read_err hoff (by omega)
  have HRL : Hid (∀ y, (s.read y).1.length = 128) := Lib.hid fun y => h.read_len y
  clear h
  obtain ⟨Z, hZ⟩ : ∃ Z, Z = u8s zeros := ⟨_, rfl⟩
  have hz : ∀ w, (zeroValue 61).run Tryd.prog w = .ok (.agg Z.toArray) w := by rw [hZ]; exact zero33
  have ZL : Hid (Z.length = 128) := Lib.hid (by rw [hZ, u8s_length]; rfl)
  clear hZ
  go_enter Tryd.func66, Tryd.ntmps66
  go_wp2_with fail
  have HQ : Hid (Below wo.heap.size wo (wo.alloc (.cells #[.pointer (some ⟨d, 0, none⟩), .int .i64 at'] 86))) := Lib.hid ((Below.refl _ _).alloc (Nat.le_refl _) _)
  have HQB : Hid ((wo.alloc (.cells #[.pointer (some ⟨d, 0, none⟩), .int .i64 at'] 86)).heap[wo.heap.size]? = some (.cells #[.pointer (some ⟨d, 0, none⟩), .int .i64 at'] 86 (0, 0))) := Lib.hid (heap_alloc_new _ _)
  go_loopw [4, 8] (fun v4 v8 wr => ∃ k : Nat, k ≤ 20 ∧ v8 = .int .i64 (k : Int) ∧ v4 = .int .u64 (topGo s at' k : Int) ∧ Hid (Below wo.heap.size wo wr) ∧ Hid (wr.heap[wo.heap.size]? = some (.cells #[.pointer (some ⟨d, 0, none⟩), .int .i64 at'] 86 (0, 0)))) (fun _ v8 _ => 20 - (intOf v8).toNat)
  case atStart => exact ⟨0, by omega, rfl, rfl, HQ, HQB⟩
  case round =>
    clear HQ HQB
    obtain ⟨k, hk, rfl, rfl, HB, HQB⟩ := hrel
    by_cases hkk : k < 20
    · have c0 : wr.cell? ⟨wo.heap.size, 0, none⟩ = some (.pointer (some ⟨d, 0, none⟩)) := block_cell (C := [.pointer (some ⟨d, 0, none⟩), .int .i64 at']) HQB.out 0 _ rfl
      have c1 : wr.cell? ⟨wo.heap.size, 1, none⟩ = some (.int .i64 at') := block_cell (C := [.pointer (some ⟨d, 0, none⟩), .int .i64 at']) HQB.out 1 _ rfl
      obtain ⟨X, hX⟩ : ∃ X, X = (s.read (at' + k)).1 := ⟨_, rfl⟩
      obtain ⟨e, he⟩ : ∃ e, e = (s.read (at' + k)).2 := ⟨_, rfl⟩
      have hXl : X.length = 128 := by rw [hX]; exact HRL.out _
      have UX : Hid ((u8s X).length = 128) := Lib.hid (by rw [u8s_length, hXl])
      have XL := Lib.hid hXl
      have HR : Hid (Calls Tryd.prog 64 #[.pointer (some ⟨d, 0, none⟩), .int .i64 (at' + k)] wr fun E w' => E = .returned (.tuple #[.agg (u8s X).toArray, .int .i64 e]) ∧ Below wr.heap.size wr w') := Lib.hid (by rw [hX, he]; exact (dat_read (HD.out.next HB.out) _ (i64_of (by omega))).mono fun E w' h => ⟨h.1, h.2.2⟩)
      have h09 : e = 0 ∨ e = 9 := by rw [he]; exact HE.out k hkk
      have HNX : Hid (topGo s at' (k + 1) = max (topGo s at' k) (if e = 0 then cnt X else 0)) := Lib.hid (by rw [topGo, hX, he])
      have hw8 := tk_nat (rem := X) (k := 8) (by omega)
      have HWD : Hid (∀ (lo g : Nat) (wx : World), Oct.CutAt wx lo g X false → Calls Tryd.prog 54 #[.pointer (some ⟨g, 0, none⟩)] wx fun E w' => E = .returned (.int .u64 (cnt X : Int)) ∧ wx.grownBy w' (some g)) := Lib.hid fun lo g wx h => by
        have := Oct.word_cut g X false wx h
        rw [show (8 : Int) = ((8 : Nat) : Int) from rfl, hw8.1] at this
        exact this.mono fun E w' h => ⟨h.1, h.2.2⟩
      have hcb := cnt_lt X
      have htb := topGo_lt s at' k
      clear hX he hXl hw8 HRL
      generalize cnt X = cX at HNX HWD hcb
      generalize topGo s at' k = tk at HNX htb ⊢
      rcases h09 with h0 | h9
      · subst h0
        have HN2 : Hid ((tk ≤ cX → topGo s at' (k + 1) = cX) ∧ (cX ≤ tk → topGo s at' (k + 1) = tk)) := Lib.hid (by rw [HNX.out, if_pos rfl]; omega)
        go_wp2_with (first
          | (go_at_call 64; refine HR.out.mono ?_; rintro E w1 ⟨rfl, hb1⟩)
          | (refine wpList_store_all rfl 61 (.tmp 6) (.tmp 19) rfl w1.heap.size Z (u8s X) 61 (row_new w1 Z 61) (ZL.out.trans UX.out.symm) rfl rfl (by rw [UX.out]; exact Tryd.size61) (u8s_one _) ?_; intro w2 G2))
        have B2 : Hid (Below wr.heap.size wr w2) := Lib.hid ((hb1.alloc hb1.size _).grown G2.out.2 (by simp; exact Nat.le_succ_of_le hb1.size) (fun k e => by injection e with e; subst e; exact hb1.size))
        clear hb1
        have QR : Hid (Oct.Rd w2 (some ⟨w1.heap.size, 0, none⟩) 128 X) := Lib.hid ⟨XL.out, fun _ => ⟨w1.heap.size, 0, rfl, (Array.getElem?_eq_some_iff.1 G2.out.1).1, fun j u hu => by rw [Nat.zero_add]; exact block_cell G2.out.1 j _ (by simp [u8s, hu])⟩⟩
        clear G2
        refine (Oct.new_any (some ⟨w1.heap.size, 0, none⟩) 128 128 X w2 QR.out ⟨(fun h => by cases h), Nat.le_refl _, by omega⟩ (by omega)).mono ?_
        rintro E w3 ⟨g, rfl, hg, hcut, hb3⟩
        have B3 : Hid (Below wr.heap.size wr w3) := Lib.hid (B2.out.trans (hb3.mono B2.out.size))
        have HG : Hid (wr.heap.size ≤ g) := Lib.hid (Nat.le_trans B2.out.size hg)
        have HCT := Lib.hid hcut
        clear hg hcut hb3 B2 QR
        go_wp2_with fail
        refine (HWD.out _ _ _ HCT.out).mono ?_
        rintro E w4 ⟨rfl, hg4⟩
        have B4 : Hid (Below wr.heap.size wr w4) := Lib.hid (below_gb' B3.out hg4 HG.out B3.out.size)
        clear hg4 HCT B3
        have B5 : Hid (Below wo.heap.size wo w4) := Lib.hid (HB.out.trans (B4.out.mono HB.out.size))
        have Q5 : Hid (w4.heap[wo.heap.size]? = some (.cells #[.pointer (some ⟨d, 0, none⟩), .int .i64 at'] 86 (0, 0))) := Lib.hid ((B4.out.block _ (Array.getElem?_eq_some_iff.1 HQB.out).1).trans HQB.out)
        clear B4 c0 c1
        rcases Nat.lt_trichotomy tk cX with hc | hc | hc
        · go_wp2_with fail
          go_roundw
          case measure => simp [intOf]; omega
          case rel => exact ⟨k + 1, by omega, by go_num, by rw [HN2.out.1 (by omega)], B5, Q5⟩
        · subst hc
          go_wp2_with fail
          go_roundw
          case measure => simp [intOf]; omega
          case rel => exact ⟨k + 1, by omega, by go_num, by rw [HN2.out.1 (by omega)], B5, Q5⟩
        · go_wp2_with fail
          go_roundw
          case measure => simp [intOf]; omega
          case rel => exact ⟨k + 1, by omega, by go_num, by rw [HN2.out.2 (by omega)], B5, Q5⟩
      · subst h9
        have HN2 : Hid (topGo s at' (k + 1) = tk) := Lib.hid (by rw [HNX.out, if_neg (by decide)]; omega)
        go_wp2_with (first
          | (go_at_call 64; refine HR.out.mono ?_; rintro E w1 ⟨rfl, hb1⟩)
          | (refine wpList_store_all rfl 61 (.tmp 6) (.tmp 19) rfl w1.heap.size Z (u8s X) 61 (row_new w1 Z 61) (ZL.out.trans UX.out.symm) rfl rfl (by rw [UX.out]; exact Tryd.size61) (u8s_one _) ?_; intro w2 G2))
        have B2 : Hid (Below wr.heap.size wr w2) := Lib.hid ((hb1.alloc hb1.size _).grown G2.out.2 (by simp; exact Nat.le_succ_of_le hb1.size) (fun k e => by injection e with e; subst e; exact hb1.size))
        go_roundw
        case measure => simp [intOf]; omega
        case rel => exact ⟨k + 1, by omega, by go_num, by rw [HN2.out], HB.out.trans (B2.out.mono HB.out.size), (B2.out.block _ (Array.getElem?_eq_some_iff.1 HQB.out).1).trans HQB.out⟩
    · obtain rfl : k = 20 := by omega
      clear HE HRL
      go_wp2_with fail
      go_ret2
      exact ⟨rfl, HB.out⟩
end Go.Proofs.YtepjfkmbmcfnoaaDoor
