/-
  What is proved: what read tells of a slot. Conditions as stated.
-/
import Derived.Test.YtfegffdhlkhjbaaCf
namespace Go.Proofs.Ytfegffdhlkhjbaa
open Go.RowKit
set_option maxRecDepth 100000

/-- A sector's count. -/
def cnt (X : List UInt8) : Nat := Oct.num (X.take 8)
/-- The count of the first k sectors of a slot, and their bytes; none: not whole. -/
def slotGo (s : Dk) (x : Int) : Nat → Option (Nat × List UInt8)
  | 0 => some (0, [])
  | k + 1 => match slotGo s x k with
    | none => none
    | some p => if (s.read (x + k)).2 ≠ 0 then none else if k ≠ 0 ∧ cnt (s.read (x + k)).1 ≠ p.1 then none else some (if k = 0 then cnt (s.read (x + k)).1 else p.1, p.2 ++ (s.read (x + k)).1.drop 8)
theorem slotGo_none {s : Dk} {x : Int} {k : Nat} (h : slotGo s x k = none) : ∀ j, slotGo s x (k + j) = none
  | 0 => h
  | j + 1 => by rw [← Nat.add_assoc, slotGo, slotGo_none h j]
/-- What a slot has: its count and its bytes; the count 0: it is not whole. -/
def slotRes (s : Dk) (x : Int) : Nat × List UInt8 := match slotGo s x 10 with
  | none => (0, [])
  | some p => match contentOf p.2 with
    | none => (0, [])
    | some b => (p.1, b)
theorem slotRes_none {s : Dk} {x : Int} {k : Nat} (hk : k ≤ 10) (h : slotGo s x k = none) : slotRes s x = (0, []) := by
  have := slotGo_none h (10 - k)
  rw [show k + (10 - k) = 10 by omega] at this
  rw [slotRes, this]
theorem read_err {s : Dk} {x : Int} (ho : s.off = false) (hx : 0 ≤ x ∧ x < 32768) : (s.read x).2 = 0 ∨ (s.read x).2 = 9 := by
  have hr : s.refuses x = 0 := by unfold Dk.refuses; rw [ho]; simp; omega
  unfold Dk.read
  rw [if_neg (by simp [hr])]
  split
  · exact .inl rfl
  · split
    · exact .inl rfl
    · exact .inr rfl

theorem wpList_append_oct {w : World} {ops : Array Oper} {rest : List Oper} {o : Oper} {a : Act} {Q : Exit → Act → World → Prop} (hgd : o.guard = none) (s x : Operand)
    (ho : o.op = Op.call { callee := Callee.builtin Builtin.append, args := #[s, x], argTypes := #[29, 29] })
    (B n m c : Nat) (v : Value) (A : Option Addr) (xs bs : List UInt8) (hs : a.eval s = v) (hx : a.eval x = .slice A m c)
    (hown : w.ownsRow B 5 1 v n (u8s xs)) (hr : Oct.Rd w A m bs) (hsl : Oct.Sl A m c) (hB : B ≤ w.heap.size) (hm : n + m ≤ 140737488355328)
    (h : ∀ A' c' w', Hid (w'.ownsRow B 5 1 (.slice A' (n + m) c') (n + m) (u8s (xs ++ bs)) ∧ Oct.Sl A' (n + m) c') → Hid (w.grownBy w' v.ownBlock) → wpList Try.prog ops Q rest (a.put o.dst (.slice A' (n + m) c')) w') :
    wpList Try.prog ops Q (o :: rest) a w := by
  refine wpList_plain hgd fun K hK => ?_
  have := step_append_oct (ops := ops) (K := K) (Q := Q) (E := True) hgd s x ho B n m c v A xs bs hs hx hown hr hsl hB hm (fun A' c' w' h1 h2 => hK _ _ (h A' c' w' h1 h2))
  rwa [if_pos (by simp [Region.wanted, hgd])] at this

set_option maxHeartbeats 4000000 in
theorem slot_read {w wo : World} {d T : Nat} {s : Dk} {L : List (Nat × Obj)} (h : Dat w d T s L wo) (hoff : s.off = false) (at' slot : Int) (hat : 0 ≤ at' ∧ at' ≤ 32748) (hsl : 0 ≤ slot ∧ slot ≤ 1) :
    Calls Try.prog 40 #[.agg #[.pointer (some ⟨d, 0, none⟩), .int .i64 at'], .int .i64 slot] wo fun E w' => ∃ A m c, E = .returned (.tuple #[.int .u64 ((slotRes s (at' + slot * 10)).1 : Int), .slice A m c, .int .i64 0]) ∧ Below wo.heap.size wo w' ∧
      Oct.Sl A m c ∧ w'.ownsRow wo.heap.size 5 1 (.slice A m c) m (u8s (slotRes s (at' + slot * 10)).2) := by
  have HD := Lib.hid h
  have HNIL : Hid (∀ w', Oct.Sl none 0 0 ∧ World.ownsRow w' wo.heap.size 5 1 (.slice none 0 0) 0 (u8s [])) := Lib.hid fun w' => ⟨⟨fun _ => ⟨rfl, rfl⟩, Nat.le_refl _, by omega⟩, World.ownsRow_nil _ _ _ _⟩
  have HE : Hid (∀ k : Nat, k < 10 → (s.read (at' + slot * 10 + k)).2 = 0 ∨ (s.read (at' + slot * 10 + k)).2 = 9) := Lib.hid fun k hk => read_err hoff (by omega)
  have HRL : Hid (∀ y, (s.read y).1.length = 128) := Lib.hid fun y => h.read_len y
  clear h
  obtain ⟨Z, hZ⟩ : ∃ Z, Z = u8s zeros := ⟨_, rfl⟩
  have hz : ∀ w, (zeroValue 43).run Try.prog w = .ok (.agg Z.toArray) w := by rw [hZ]; exact zero33
  have ZL : Hid (Z.length = 128) := Lib.hid (by rw [hZ, u8s_length]; rfl)
  clear hZ
  go_enter Try.func40, Try.ntmps40
  go_wp2_with fail
  have HQ : Hid (Below wo.heap.size wo (wo.alloc (.cells #[.pointer (some ⟨d, 0, none⟩), .int .i64 at'] 79))) := Lib.hid ((Below.refl _ _).alloc (Nat.le_refl _) _)
  have HQB : Hid ((wo.alloc (.cells #[.pointer (some ⟨d, 0, none⟩), .int .i64 at'] 79)).heap[wo.heap.size]? = some (.cells #[.pointer (some ⟨d, 0, none⟩), .int .i64 at'] 79 (0, 0))) := Lib.hid (heap_alloc_new _ _)
  go_loopw [7, 8, 16] (fun v7 v8 v16 wr => ∃ k : Nat, k ≤ 10 ∧ v16 = .int .i64 (k : Int) ∧ ∃ p : Nat × List UInt8, Hid (slotGo s (at' + slot * 10) k = some p) ∧ v7 = .int .u64 (p.1 : Int) ∧ ∃ A m c, v8 = .slice A m c ∧ Hid (m = 120 * k ∧ Oct.Sl A m c ∧ wr.ownsRow (wo.heap.size + 1) 5 1 (.slice A m c) m (u8s p.2)) ∧ Hid (Below wo.heap.size wo wr) ∧ Hid (wr.heap[wo.heap.size]? = some (.cells #[.pointer (some ⟨d, 0, none⟩), .int .i64 at'] 79 (0, 0)))) (fun _ _ v16 _ => 10 - (intOf v16).toNat)
  case atStart => exact ⟨0, by omega, rfl, (0, []), Lib.hid rfl, rfl, none, 0, 0, rfl, ⟨rfl, ⟨fun _ => ⟨rfl, rfl⟩, Nat.le_refl _, by omega⟩, World.ownsRow_nil _ _ _ _⟩, HQ, HQB⟩
  case round =>
    clear HQ HQB
    obtain ⟨k, hk, rfl, p, HP, rfl, A, m, c, rfl, HM, HB, HQB⟩ := hrel
    by_cases hkk : k < 10
    · have hmk := HM.out.1
      subst hmk
      have c0 : wr.cell? ⟨wo.heap.size, 0, none⟩ = some (.pointer (some ⟨d, 0, none⟩)) := block_cell (C := [.pointer (some ⟨d, 0, none⟩), .int .i64 at']) HQB.out 0 _ rfl
      have c1 : wr.cell? ⟨wo.heap.size, 1, none⟩ = some (.int .i64 at') := block_cell (C := [.pointer (some ⟨d, 0, none⟩), .int .i64 at']) HQB.out 1 _ rfl
      obtain ⟨X, hX⟩ : ∃ X, X = (s.read (at' + slot * 10 + k)).1 := ⟨_, rfl⟩
      obtain ⟨e, he⟩ : ∃ e, e = (s.read (at' + slot * 10 + k)).2 := ⟨_, rfl⟩
      have hXl : X.length = 128 := by rw [hX]; exact HRL.out _
      have UX : Hid ((u8s X).length = 128) := Lib.hid (by rw [u8s_length, hXl])
      have XL := Lib.hid hXl
      have HR : Hid (Calls Try.prog 19 #[.pointer (some ⟨d, 0, none⟩), .int .i64 (at' + slot * 10 + k)] wr fun E w' => E = .returned (.tuple #[.agg (u8s X).toArray, .int .i64 e]) ∧ Below wr.heap.size wr w') := Lib.hid (by rw [hX, he]; exact (dat_read (HD.out.next HB.out) _ (i64_of (by omega))).mono fun E w' h => ⟨h.1, h.2.2⟩)
      have h09 : e = 0 ∨ e = 9 := by rw [he]; exact HE.out k hkk
      have HNX : Hid (slotGo s (at' + slot * 10) (k + 1) = if e ≠ 0 then none else if k ≠ 0 ∧ cnt X ≠ p.1 then none else some (if k = 0 then cnt X else p.1, p.2 ++ X.drop 8)) := Lib.hid (by rw [slotGo, HP.out, hX, he])
      obtain ⟨Y, hY⟩ : ∃ Y, Y = X.drop 8 := ⟨_, rfl⟩
      have hYl : Y.length = 120 := by rw [hY, List.length_drop, hXl]
      rw [← hY] at HNX
      have hw8 := tk_nat (rem := X) (k := 8) (by omega)
      have hf8 := fits_nat (rem := X) (k := 8) (by omega)
      have HWD : Hid (∀ (lo g : Nat) (wx : World), Oct.CutAt wx lo g X false → Calls Try.prog 46 #[.pointer (some ⟨g, 0, none⟩)] wx fun E w' => E = .returned (.int .u64 (cnt X : Int)) ∧ Oct.CutAt w' lo g Y false ∧ wx.grownBy w' (some g)) := Lib.hid fun lo g wx h => by
        have := Oct.word_cut g X false wx h
        rw [show (8 : Int) = ((8 : Nat) : Int) from rfl, hw8.1, hw8.2, hf8, ← hY] at this
        exact this
      have hq5 := tk_nat (rem := Y) (k := Y.length) (Nat.le_refl _)
      have HRW : Hid (∀ (lo g : Nat) (wx : World), Oct.CutAt wx lo g Y false → Calls Try.prog 55 #[.pointer (some ⟨g, 0, none⟩), .int .i64 120] wx fun E w' => ∃ A' m c', E = .returned (.slice A' m c') ∧ Hid (m = 120 ∧ w'.ownsRow wx.heap.size 5 1 (.slice A' m c') m (u8s Y) ∧ Oct.Sl A' m c') ∧ wx.grownBy w' (some g)) := Lib.hid fun lo g wx h => by
        have := Oct.raw_cut g Y false (Y.length : Int) wx h
        rw [hq5.1, List.take_length, hYl] at this
        exact this.mono fun E w' ⟨A', m, c', h1, h2, _, h4⟩ => ⟨A', m, c', h1, h2, h4⟩
      have HLF : Hid (∀ (lo g : Nat) (wx : World), Oct.CutAt wx lo g Y false → Calls Try.prog 56 #[.pointer (some ⟨g, 0, none⟩)] wx fun E w' => E = .returned (.int .i64 120) ∧ ∃ q, w' = wx.drewN q) := Lib.hid fun lo g wx h => by
        have := Oct.left_any g Y false wx h
        rw [hYl] at this
        exact this
      have HCN : Hid (cnt X < 18446744073709551616) := Lib.hid (by unfold cnt; have := Oct.num_lt 8 (X.take 8) (by rw [List.length_take]; omega); exact this)
      clear hX he hXl hY hYl hw8 hf8 hq5 HRL
      generalize cnt X = cX at HNX HWD HCN
      rcases h09 with h0 | h9
      · subst h0
        go_wp2_with (first
          | (go_at_call 19; refine HR.out.mono ?_; rintro E w1 ⟨rfl, hb1⟩)
          | (refine wpList_store_all rfl 43 (.tmp 10) (.tmp 30) rfl w1.heap.size Z (u8s X) 43 (row_new w1 Z 43) (ZL.out.trans UX.out.symm) rfl rfl (by rw [UX.out]; exact Try.size43) (u8s_one _) ?_; intro w2 G2))
        have B2 : Hid (Below wr.heap.size wr w2) := Lib.hid ((hb1.alloc hb1.size _).grown G2.out.2 (by simp; exact Nat.le_succ_of_le hb1.size) (fun k e => by injection e with e; subst e; exact hb1.size))
        clear hb1
        have QR : Hid (Oct.Rd w2 (some ⟨w1.heap.size, 0, none⟩) 128 X) := Lib.hid ⟨XL.out, fun _ => ⟨w1.heap.size, 0, rfl, (Array.getElem?_eq_some_iff.1 G2.out.1).1, fun j u hu => by rw [Nat.zero_add]; exact block_cell G2.out.1 j _ (by simp [u8s, hu])⟩⟩
        clear G2
        refine (Oct.new_any (some ⟨w1.heap.size, 0, none⟩) 128 128 X w2 QR.out ⟨(fun h => by cases h), Nat.le_refl _, by omega⟩ (by omega)).mono ?_
        rintro E w3 ⟨g, rfl, hg, hcut, hb3⟩
        have B3 : Hid (Below wr.heap.size wr w3) := Lib.hid (B2.out.trans (hb3.mono B2.out.size))
        have HG : Hid (wr.heap.size ≤ g) := Lib.hid (Nat.le_trans B2.out.size hg)
        have HCT := Lib.hid hcut
        clear hg hcut hb3 B2 QR
        go_wp2_with fail
        refine (HWD.out _ _ _ HCT.out).mono ?_
        rintro E w4 ⟨rfl, hcut4, hg4⟩
        have B4 : Hid (Below wr.heap.size wr w4) := Lib.hid (below_gb' B3.out hg4 HG.out B3.out.size)
        have HC4 := Lib.hid hcut4
        clear hcut4 hg4 HCT B3
        by_cases hk0 : k = 0
        · subst hk0
          have HNX2 : Hid (slotGo s (at' + slot * 10) (0 + 1) = some (cX, p.2 ++ Y)) := Lib.hid (by rw [HNX.out, if_neg (by simp), if_neg (by simp), if_pos rfl])
          go_wp2_with fail
          refine (HLF.out _ _ _ HC4.out).mono ?_
          rintro E w5 ⟨rfl, q, rfl⟩
          go_wp2_with fail
          refine (HRW.out _ _ _ (HC4.out.drewN q)).mono ?_
          rintro E w6 ⟨A2, m2, c2, rfl, h6, hg6⟩
          obtain rfl : m2 = 120 := h6.out.1
          have B6 : Hid (Below wr.heap.size wr w6) := Lib.hid (below_gb' (B4.out.trans (c := w4.drewN q) ⟨rfl, rfl, rfl, Nat.le_refl _, fun _ _ => rfl⟩) hg6 HG.out B4.out.size)
          have R6 : Hid (Oct.Rd w6 A2 120 Y ∧ Oct.Sl A2 120 c2) := Lib.hid ⟨Oct.Rd.of_own h6.out.2.1, h6.out.2.2⟩
          clear h6 hg6 HC4 B4
          have O6 : Hid (w6.ownsRow (wo.heap.size + 1) 5 1 (.slice A (0) c) (0) (u8s p.2)) := Lib.hid (own_below HM.out.2.2 B6.out)
          have HLT : Hid (wo.heap.size + 1 ≤ w6.heap.size) := Lib.hid (by have h1 := (Array.getElem?_eq_some_iff.1 HQB.out).1; have h2 := B6.out.size; omega)
          go_wp2_with (first
            | (at_builtin; go_must (refine wpList_append_oct rfl (.tmp 47) (.tmp 51) rfl (wo.heap.size + 1) (0) 120 c2 (.slice A (0) c) A2 p.2 Y rfl rfl O6.out R6.out.1 R6.out.2 HLT.out (by omega) ?_); intro A7 c7 w7 h7 hg7))
          have B7 : Hid (Below wo.heap.size wo w7) := Lib.hid ((HB.out.trans (B6.out.mono HB.out.size)).grown hg7.out (by have := HLT.out; omega) (fun g e => by have := (own_lt O6.out g e).1; omega))
          have Q7 : Hid (w7.heap[wo.heap.size]? = some (.cells #[.pointer (some ⟨d, 0, none⟩), .int .i64 at'] 79 (0, 0))) := Lib.hid ((hg7.out.block _ (by have := HLT.out; omega) (fun e => by have := (own_lt O6.out _ e.symm).1; omega)).trans ((B6.out.block _ (Array.getElem?_eq_some_iff.1 HQB.out).1).trans HQB.out))
          clear hg7 O6 R6
          go_roundw
          case measure => simp [intOf] <;> omega
          case rel => exact ⟨0 + 1, by omega, by go_num, (cX, p.2 ++ Y), HNX2, rfl, A7, 0 + 120, c7, rfl, ⟨by omega, h7.out.2, h7.out.1⟩, B7, Q7⟩
        · by_cases hcx : cX = p.1
          · subst hcx
            have HNX2 : Hid (slotGo s (at' + slot * 10) (k + 1) = some (p.1, p.2 ++ Y)) := Lib.hid (by rw [HNX.out, if_neg (by simp), if_neg (by simp), if_neg hk0])
            go_wp2_with fail
            refine (HLF.out _ _ _ HC4.out).mono ?_
            rintro E w5 ⟨rfl, q, rfl⟩
            go_wp2_with fail
            refine (HRW.out _ _ _ (HC4.out.drewN q)).mono ?_
            rintro E w6 ⟨A2, m2, c2, rfl, h6, hg6⟩
            obtain rfl : m2 = 120 := h6.out.1
            have B6 : Hid (Below wr.heap.size wr w6) := Lib.hid (below_gb' (B4.out.trans (c := w4.drewN q) ⟨rfl, rfl, rfl, Nat.le_refl _, fun _ _ => rfl⟩) hg6 HG.out B4.out.size)
            have R6 : Hid (Oct.Rd w6 A2 120 Y ∧ Oct.Sl A2 120 c2) := Lib.hid ⟨Oct.Rd.of_own h6.out.2.1, h6.out.2.2⟩
            clear h6 hg6 HC4 B4
            have O6 : Hid (w6.ownsRow (wo.heap.size + 1) 5 1 (.slice A (120 * k) c) (120 * k) (u8s p.2)) := Lib.hid (own_below HM.out.2.2 B6.out)
            have HLT : Hid (wo.heap.size + 1 ≤ w6.heap.size) := Lib.hid (by have h1 := (Array.getElem?_eq_some_iff.1 HQB.out).1; have h2 := B6.out.size; omega)
            go_wp2_with (first
              | (at_builtin; go_must (refine wpList_append_oct rfl (.tmp 47) (.tmp 51) rfl (wo.heap.size + 1) (120 * k) 120 c2 (.slice A (120 * k) c) A2 p.2 Y rfl rfl O6.out R6.out.1 R6.out.2 HLT.out (by omega) ?_); intro A7 c7 w7 h7 hg7))
            have B7 : Hid (Below wo.heap.size wo w7) := Lib.hid ((HB.out.trans (B6.out.mono HB.out.size)).grown hg7.out (by have := HLT.out; omega) (fun g e => by have := (own_lt O6.out g e).1; omega))
            have Q7 : Hid (w7.heap[wo.heap.size]? = some (.cells #[.pointer (some ⟨d, 0, none⟩), .int .i64 at'] 79 (0, 0))) := Lib.hid ((hg7.out.block _ (by have := HLT.out; omega) (fun e => by have := (own_lt O6.out _ e.symm).1; omega)).trans ((B6.out.block _ (Array.getElem?_eq_some_iff.1 HQB.out).1).trans HQB.out))
            clear hg7 O6 R6
            go_roundw
            case measure => simp [intOf] <;> omega
            case rel => exact ⟨k + 1, by omega, by go_num, (p.1, p.2 ++ Y), HNX2, rfl, A7, 120 * k + 120, c7, rfl, ⟨by omega, h7.out.2, h7.out.1⟩, B7, Q7⟩
          · have HS := Lib.hid (slotRes_none hkk (show slotGo s (at' + slot * 10) (k + 1) = none by rw [HNX.out, if_neg (by simp), if_pos ⟨hk0, hcx⟩]))
            go_wp2_with fail
            go_ret3
            exact ⟨none, 0, 0, by rw [HS.out]; rfl, HB.out.trans (B4.out.mono HB.out.size), (HNIL.out wo).1, by rw [HS.out]; exact (HNIL.out _).2⟩
      · subst h9
        have hn : slotGo s (at' + slot * 10) (k + 1) = none := by rw [HNX.out]; rfl
        have HS := Lib.hid (slotRes_none hkk hn)
        clear hn
        go_wp2_with (first
          | (go_at_call 19; refine HR.out.mono ?_; rintro E w1 ⟨rfl, hb1⟩)
          | (refine wpList_store_all rfl 43 (.tmp 10) (.tmp 30) rfl w1.heap.size Z (u8s X) 43 (row_new w1 Z 43) (ZL.out.trans UX.out.symm) rfl rfl (by rw [UX.out]; exact Try.size43) (u8s_one _) ?_; intro w2 G2))
        have B2 : Hid (Below wr.heap.size wr w2) := Lib.hid ((hb1.alloc hb1.size _).grown G2.out.2 (by simp; exact Nat.le_succ_of_le hb1.size) (fun k e => by injection e with e; subst e; exact hb1.size))
        go_ret3
        exact ⟨none, 0, 0, by rw [HS.out]; rfl, HB.out.trans (B2.out.mono HB.out.size), (HNIL.out wo).1, by rw [HS.out]; exact (HNIL.out _).2⟩
    · obtain rfl : k = 10 := by omega
      have HRS : Hid (slotRes s (at' + slot * 10) = match contentOf p.2 with | none => (0, []) | some b => (p.1, b)) := Lib.hid (by rw [slotRes, HP.out])
      have HCA := Lib.hid (content_any A m c p.2 wr (Oct.Rd.of_own HM.out.2.2) HM.out.2.1 (by rw [HM.out.1]))
      generalize contentOf p.2 = ct at HRS HCA
      clear HM HQB
      go_wp2_with fail
      refine HCA.out.mono ?_
      rintro E w8 ⟨A8, m8, c8, rfl, hb8, hs8, ho8⟩
      have B8 : Hid (Below wo.heap.size wo w8) := Lib.hid (HB.out.trans (hb8.mono HB.out.size))
      have H8 := Lib.hid hs8
      have O8 := Lib.hid (own_base ho8 HB.out.size)
      clear hb8 hs8 ho8
      cases ct with
      | none =>
        go_wp2_with fail
        go_ret3
        exact ⟨none, 0, 0, by rw [HRS.out]; rfl, B8.out, (HNIL.out wo).1, by rw [HRS.out]; exact (HNIL.out _).2⟩
      | some b =>
        go_wp2_with fail
        go_ret3
        exact ⟨A8, m8, c8, by rw [HRS.out]; rfl, B8.out, H8.out, by rw [HRS.out]; exact O8.out⟩
end Go.Proofs.Ytfegffdhlkhjbaa
