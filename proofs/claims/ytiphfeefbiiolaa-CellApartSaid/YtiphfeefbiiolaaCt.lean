/-
  What is proved: the walk of CellPower for whatever comes in. Conditions as stated.
-/
import Derived.Test.YtiphfeefbiiolaaCs
namespace Go.Proofs.Ytiphfeefbiiolaa
open Go.RowKit
set_option maxRecDepth 100000

theorem wpAnyH_mono {P : Program} {md : Region.Mode} {ops : Array Oper} {Q : Exit → Act → World → Prop} {S S' : World → Prop} (hS : ∀ w, S' w → S w) : ∀ (fuel : Nat) (listed : Array Bool) (a : Act) (w : World), wpAnyH P md ops Q S' fuel listed a w → wpAnyH P md ops Q S fuel listed a w
  | 0, _, _, _, h => h
  | fuel + 1, _, _, _, h => ⟨h.1, fun i hi => wpOp_mono (fun a' w' h' => ⟨hS _ h'.1, wpAnyH_mono hS fuel _ a' w' h'.2⟩) (h.2 i hi)⟩
/-- From here on all memory that there is stays as it is. -/
theorem wpAnyH_next {P : Program} {md : Region.Mode} {ops : Array Oper} {Q : Exit → Act → World → Prop} {w0 w1 : World} (hb : Below w0.heap.size w0 w1) {fuel : Nat} {listed : Array Bool} {a : Act}
    (h : wpAnyH P md ops Q (fun W => Below w1.heap.size w1 W) fuel listed a w1) : wpAnyH P md ops Q (fun W => Below w0.heap.size w0 W) fuel listed a w1 :=
  wpAnyH_mono (fun _ h => hb.trans (h.mono hb.size)) _ _ _ _ h

section
variable {w wr : World} {d T : Nat} {s : Dk} {L : List (Nat × Obj)} {x : Int} {g : Nat} {bs : List UInt8} {slot : Int}
theorem cell_fuse (h : OpAt w d T s x L g bs slot wr) (m : Int) (hm : m < 9223372036854775808) : Calls Try.prog 12 #[.pointer (some ⟨d, 0, none⟩), .int .i64 m] wr fun E w' => E = .returned (.tuple #[]) ∧ Hid (OpAt w d T (s.fuseAt m) x L g bs slot w') := by
  obtain ⟨A, n, c, LR, h1, h2⟩ := h
  exact (dat_fuse h1 m hm).mono fun E w' ⟨e, h3⟩ => ⟨e, A, n, c, LR, h3, h2⟩
theorem cell_gets (h : OpAt w d T s x L g bs slot wr) :
    Calls Try.prog 11 #[.pointer (some ⟨g, 0, none⟩)] wr fun E w' => ∃ A n c, E = .returned (.slice A n c) ∧ Hid (OpAt w d T s x L g bs slot w' ∧ Oct.Rd w' A n bs ∧ Below wr.heap.size wr w') := by
  obtain ⟨A, n, c, hg, hr, hs, hn⟩ := h.cells
  exact (get_any hg bs hr hs hn).mono fun E w' ⟨A', c', e, ho, _, hb⟩ => ⟨A', n, c', e, h.next hb, Oct.Rd.of_own ho, hb⟩
end
theorem rd_oct {w W : World} {A : Option Addr} {n : Nat} {bs : List UInt8} (h : Rd (fun _ => True) w A n bs) (hb : Below w.heap.size w W) : Oct.Rd W A n bs :=
  ⟨h.1, fun hn => let ⟨b, o, e, hlt, _, hc⟩ := h.2 hn; ⟨b, o, e, Nat.lt_of_lt_of_le hlt hb.size, fun j u hu => (hb.cell (p := ⟨b, o + j, none⟩) hlt).trans (hc j u hu)⟩⟩
theorem rd_low {w W : World} {A : Option Addr} {n : Nat} {bs : List UInt8} (h : Rd (fun _ => True) w A n bs) (hb : Below w.heap.size w W) : Rd (fun b => b < w.heap.size) W A n bs :=
  ⟨h.1, fun hn => let ⟨b, o, e, hlt, _, hc⟩ := h.2 hn; ⟨b, o, e, Nat.lt_of_lt_of_le hlt hb.size, hlt, fun j u hu => (hb.cell (p := ⟨b, o + j, none⟩) hlt).trans (hc j u hu)⟩⟩

set_option maxHeartbeats 40000000 in
theorem cellPower_by (hW : Works) (A : Option Addr) (n c : Nat) (xs : List Crs) (w : World) (hx : Crss w A n xs) (hs : Sl A n c) :
    Calls Try.prog 3 #[.slice A n c] w fun E w' => E = .returned (.bool true) ∧ Below w.heap.size w w' := by
  have HW := Lib.hid hW
  have HX := Lib.hid hx
  have hsc := hs.2
  clear hW hx hs
  by_cases hn : n ≤ 30
  · go_enter Try.func3, Try.ntmps3
    go_wp2_with fail
    refine (dat_new (Below.refl _ w)).mono ?_
    rintro E w1 ⟨d, rfl, h1, -⟩
    have D1 := Lib.hid h1
    clear h1
    go_wp2_with fail
    refine (cell_format D1.out new_calm (by omega) (x := 0) (by omega)).mono ?_
    rintro E w2 ⟨rfl, s2, H2⟩
    clear D1
    go_wp2_with fail
    have D2 : Hid (Dat w d (20 + 10 * 0) s2 [] w2 ∧ Calm s2 ∧ s2.loose = [] ∧ CellIs s2 0 0 2 [] (2 + 0)) := Lib.hid ⟨H2.out.1, H2.out.2.1, H2.out.2.2.1, H2.out.2.2.2.1⟩
    clear H2
    go_loopw [4, 5] (fun v4 v5 wr => ∃ k : Nat, k ≤ n ∧ v5 = .int .i64 (k : Int) ∧ ∃ bs a na s, v4 = .string (Oct.str bs) ∧ Hid (Dat w d (20 + 10 * k) s [] wr ∧ Calm s ∧ s.loose = [] ∧ CellIs s 0 a na bs (2 + k))) (fun _ v5 _ => n - (intOf v5).toNat)
    case atStart => exact ⟨0, by omega, rfl, [], 0, 2, s2, rfl, D2⟩
    case round =>
      clear D2
      obtain ⟨k, hkn, rfl, bs, a, na, s, rfl, HD⟩ := hrel
      by_cases hkk : k < n
      · obtain ⟨b, o, rfl, hb0, hc⟩ := HX.out.2 (by omega)
        obtain ⟨x, hq⟩ : ∃ x, xs[k]? = some x := ⟨_, List.getElem?_eq_getElem (by rw [HX.out.1]; exact hkk)⟩
        obtain ⟨hcx, hrb, hsb, hrp, hsp⟩ := hc k x hq
        have HCB : Hid (∀ W, Below w.heap.size w W → W.cell? ⟨b, o + k * 3, none⟩ = some (.slice x.adr x.bs.length x.room)) := Lib.hid fun W hb => (hb.cell (p := ⟨b, o + k * 3, none⟩) hb0).trans (hcx 0 _ rfl)
        have HCN : Hid (∀ W, Below w.heap.size w W → W.cell? ⟨b, o + k * 3 + 1, none⟩ = some (.int .u8 (x.num.toNat : Int))) := Lib.hid fun W hb => (hb.cell (p := ⟨b, o + k * 3 + 1, none⟩) hb0).trans (hcx 1 _ rfl)
        have HCP : Hid (∀ W, Below w.heap.size w W → W.cell? ⟨b, o + k * 3 + 2, none⟩ = some (.slice x.padr x.picks.length x.proom)) := Lib.hid fun W hb => (hb.cell (p := ⟨b, o + k * 3 + 2, none⟩) hb0).trans (hcx 2 _ rfl)
        have HRB : Hid (∀ W, Below w.heap.size w W → Oct.Rd W x.adr x.bs.length x.bs) := Lib.hid fun W hb => rd_oct hrb hb
        have HRP : Hid (∀ W, Below w.heap.size w W → Rd (fun b => b < w.heap.size) W x.padr x.picks.length x.picks) := Lib.hid fun W hb => rd_low hrp hb
        have HSB : Hid (Oct.Sl x.adr x.bs.length x.room) := Lib.hid hsb
        have HSP := Lib.hid hsp
        obtain ⟨x16, hx16⟩ : ∃ m, m = x.num.toNat % 16 := ⟨_, rfl⟩
        have htm : ((x.num.toNat : Int)).tmod 16 = (x16 : Int) := by rw [Int.tmod_eq_emod_of_nonneg (by omega)]; omega
        have hxl : x16 < 16 := by omega
        have hxz : (x.num.toNat : Int) % 16 = (x16 : Int) := by omega
        have hwn : RowKit.wrap64 (x.num.toNat : Int) = (x.num.toNat : Int) := by unfold RowKit.wrap64; have := x.num.toNat_lt; omega
        clear hc hq hcx hrb hsb hrp hsp hx16
        have cb := HCB.out _ HD.out.1.below
        have cp := HCP.out _ HD.out.1.below
        obtain ⟨m, hm⟩ : ∃ m, m = x.bs.length := ⟨_, rfl⟩
        obtain ⟨pm, hpm⟩ : ∃ m, m = x.picks.length := ⟨_, rfl⟩
        have HM := Lib.hid hm
        rw [← hm] at HCB HRB HSB cb
        rw [← hpm] at HCP HRP HSP cp
        have HPM := Lib.hid hpm
        clear hm hpm
        by_cases hok : pm ≤ 200 ∧ m ≤ 1100
        · obtain ⟨hpm, hml⟩ := hok
          go_wp2_with fail
          refine (cell_open HD.out.1 HD.out.2.1.1 (x := 0) (by omega) HD.out.2.2.2).mono ?_
          rintro E w3 ⟨g, rfl, O3⟩
          clear cb cp
          go_wp2_with fail
          refine (cell_get O3.out).mono ?_
          rintro E w4 ⟨A4, n4, c4, rfl, H4⟩
          have hrun := run_str c4 H4.out.2.1
          obtain ⟨S, hS⟩ : ∃ S, S = Oct.str bs := ⟨_, rfl⟩
          have HS := Lib.hid hS
          rw [← hS] at hrun ⊢
          clear hS O3
          have cn := HCN.out _ H4.out.1.dat.below
          go_wp2_with fail
          refine (cell_fuse H4.out.1 (x16 : Int) (by omega)).mono ?_
          rintro E w5 ⟨rfl, O5⟩
          clear H4 hrun cn
          have cb := HCB.out _ O5.out.dat.below
          have ha := HD.out.2.2.2.slot
          have htp := HD.out.2.2.2.top_le
          have hsm := HD.out.2.2.2.small
          obtain ⟨s6, e, hrn, h08, hcr⟩ := renew_crash (s := s.fuseAt (x16 : Int)) (at' := 0) (slot := 1 - (a : Int)) (bs := x.bs) HD.out.2.1.1 HD.out.2.2.1 (by omega)
          have htg : topGo (s.fuseAt (x16 : Int)) 0 20 = topGo s 0 20 := topGo_congr (fun _ => rfl) 0 20
          have HP := Lib.hid (cell_put_end O5.out HD.out.2.1.1 (by omega) (x := 0) (by omega) (by omega) (by rw [htg]; omega) (fun W hb1 _ => HRB.out W hb1) HSB.out hml hrn)
          obtain ⟨s9, k1, k2, k3, k4, k5, k6⟩ := hcr x.picks
          rw [htg] at k5 k6
          have e1 : (0 : Int) + (1 - (a : Int)) * 10 = 0 + ((1 - a : Nat) : Int) * 10 := by omega
          rw [e1] at k5 k6
          have HCI := Lib.hid (HD.out.2.2.2.crash (x := 0) (by omega) (by omega) x.bs (by have := HM.out; omega) HD.out.2.1.1 HD.out.2.2.1 k2 k4 k5)
          have HON : Hid (s6.offed.on x.picks = (s9, 0)) := Lib.hid k1
          have HC9 : Hid (Calm s9 ∧ s9.loose = []) := Lib.hid ⟨⟨k2, k3⟩, k4⟩
          have HK6 := Lib.hid k6
          clear k1 k2 k3 k4 k5 k6 hcr hrn htg e1 htp hsm ha O5
          generalize topGo s 0 20 = tk at HCI HK6
          go_wp2_with fail
          refine HP.out.mono ?_
          rintro E w6 ⟨rfl, H6⟩
          clear HP cb
          rcases h08 with h0 | h8
          · subst h0
            have O6 : Hid (OpAt w d (20 + 10 * k + 10) s6 0 [] g x.bs (1 - (a : Int)) w6) := Lib.hid (by
              rcases H6.out with ⟨h, _⟩ | ⟨_, h⟩
              · exact absurd rfl h
              · exact h)
            clear H6
            go_wp2_with fail
            try simp only [Act.put, List.setIfInBounds_toArray, List.set_cons_zero, List.set_cons_succ]
            refine wp_region_any (by kernel_rfl) ?_
            change wpAny _ _ _ _ _ _ _ (w6.drewN 1)
            have O7 : Hid (OpAt w d (20 + 10 * k + 10) s6 0 [] g x.bs (1 - (a : Int)) (w6.drewN 1)) := Lib.hid (O6.out.next ⟨rfl, rfl, rfl, Nat.le_refl _, fun _ _ => rfl⟩)
            clear O6
            generalize w6.drewN 1 = w7 at O7 ⊢
            have HSX : Hid (∀ W, Below w7.heap.size w7 W → Below w.heap.size w W) := Lib.hid fun W hb => O7.out.dat.below.trans (hb.mono O7.out.dat.below.size)
            refine wpAny_of_held (S := fun W => Below w7.heap.size w7 W) _ _ _ _ ?_
            refine wpAnyH_take (i := 0) (oi := { dst := some 77, op := Op.move (Operand.tmp 8), type := 26, pos := "law.go:142", after := #[], guard := none }) (v := .int .i64 0) rfl (by kernel_rfl) (by kernel_rfl) (by kernel_rfl) (fun _ _ _ h => h) (Or.inl ⟨by kernel_rfl, fun W hSW => by go_simp⟩) (Below.refl _ _) ?_
            simp only [Act.put, List.setIfInBounds_toArray, List.set_cons_zero, List.set_cons_succ]
            refine wpAnyH_take (i := 1) (oi := { dst := some 78, op := Op.binOp BinOp.neq 26 (Operand.tmp 77) (Operand.const (Value.int IntKind.i64 0)) 26, type := 4, pos := "law.go:142", after := #[{ on := 0, ground := Ground.data }], guard := none }) (v := .bool false) rfl (by kernel_rfl) (by kernel_rfl) (by kernel_rfl) (fun _ _ _ h => h) (Or.inl ⟨by kernel_rfl, fun W hSW => by go_simp⟩) (Below.refl _ _) ?_
            simp only [Act.put, List.setIfInBounds_toArray, List.set_cons_zero, List.set_cons_succ]
            refine wpAnyH_take (i := 2) (oi := { dst := some 79, op := Op.move (Operand.tmp 78), type := 4, pos := "law.go:142", after := #[{ on := 1, ground := Ground.data }], guard := none }) (v := .bool false) rfl (by kernel_rfl) (by kernel_rfl) (by kernel_rfl) (fun _ _ _ h => h) (Or.inl ⟨by kernel_rfl, fun W hSW => by go_simp⟩) (Below.refl _ _) ?_
            simp only [Act.put, List.setIfInBounds_toArray, List.set_cons_zero, List.set_cons_succ]
            refine wpAnyH_take (i := 3) (oi := { dst := some 80, op := Op.move (Operand.tmp 8), type := 26, pos := "law.go:142", after := #[{ on := 2, ground := Ground.guard }], guard := some (2, true) }) (v := undef) rfl (by kernel_rfl) (by kernel_rfl) (by kernel_rfl) (fun _ _ _ h => h) (Or.inr ⟨by kernel_rfl, rfl⟩) (Below.refl _ _) ?_
            simp only [Act.put, List.setIfInBounds_toArray, List.set_cons_zero, List.set_cons_succ]
            refine wpAnyH_take (i := 4) (oi := { dst := some 81, op := Op.binOp BinOp.neq 26 (Operand.tmp 80) (Operand.const (Value.int IntKind.i64 8)) 26, type := 4, pos := "law.go:142", after := #[{ on := 3, ground := Ground.data }, { on := 2, ground := Ground.guard }], guard := some (2, true) }) (v := undef) rfl (by kernel_rfl) (by kernel_rfl) (by kernel_rfl) (fun _ _ _ h => h) (Or.inr ⟨by kernel_rfl, rfl⟩) (Below.refl _ _) ?_
            simp only [Act.put, List.setIfInBounds_toArray, List.set_cons_zero, List.set_cons_succ]
            refine wpAnyH_take (i := 5) (oi := { dst := some 82, op := Op.move (Operand.tmp 81), type := 4, pos := "law.go:142", after := #[{ on := 4, ground := Ground.data }, { on := 2, ground := Ground.chain }, { on := 2, ground := Ground.guard }], guard := some (2, true) }) (v := undef) rfl (by kernel_rfl) (by kernel_rfl) (by kernel_rfl) (fun _ _ _ h => h) (Or.inr ⟨by kernel_rfl, rfl⟩) (Below.refl _ _) ?_
            simp only [Act.put, List.setIfInBounds_toArray, List.set_cons_zero, List.set_cons_succ]
            refine wpAnyH_take (i := 6) (oi := { dst := some 83, op := Op.move (Operand.tmp 6), type := 31, pos := "law.go:142", after := #[{ on := 5, ground := Ground.guard }], guard := some (5, false) }) (v := undef) rfl (by kernel_rfl) (by kernel_rfl) (by kernel_rfl) (fun _ _ _ h => h) (Or.inr ⟨by kernel_rfl, rfl⟩) (Below.refl _ _) ?_
            simp only [Act.put, List.setIfInBounds_toArray, List.set_cons_zero, List.set_cons_succ]
            refine wpAnyH_take (i := 7) (oi := { dst := some 84, op := Op.call { callee := Callee.value (Operand.func 13), args := #[Operand.tmp 83, Operand.const (Value.slice none 0 0)], argTypes := #[31, 28] }, type := 26, pos := "law.go:142", after := #[{ on := 6, ground := Ground.data }, { on := 5, ground := Ground.chain }, { on := 5, ground := Ground.guard }], guard := some (5, false) }) (v := undef) rfl (by kernel_rfl) (by kernel_rfl) (by kernel_rfl) (fun _ _ _ h => h) (Or.inr ⟨by kernel_rfl, rfl⟩) (Below.refl _ _) ?_
            simp only [Act.put, List.setIfInBounds_toArray, List.set_cons_zero, List.set_cons_succ]
            refine wpAnyH_take (i := 8) (oi := { dst := some 85, op := Op.binOp BinOp.neq 26 (Operand.tmp 84) (Operand.const (Value.int IntKind.i64 8)) 26, type := 4, pos := "law.go:142", after := #[{ on := 7, ground := Ground.data }, { on := 5, ground := Ground.guard }], guard := some (5, false) }) (v := undef) rfl (by kernel_rfl) (by kernel_rfl) (by kernel_rfl) (fun _ _ _ h => h) (Or.inr ⟨by kernel_rfl, rfl⟩) (Below.refl _ _) ?_
            simp only [Act.put, List.setIfInBounds_toArray, List.set_cons_zero, List.set_cons_succ]
            refine wpAnyH_take (i := 9) (oi := { dst := some 86, op := Op.pick (Operand.tmp 82) (Operand.const (Value.bool true)) (Operand.tmp 85), type := 4, pos := "law.go:142", after := #[{ on := 5, ground := Ground.data }, { on := 8, ground := Ground.data }, { on := 2, ground := Ground.guard }], guard := some (2, true) }) (v := undef) rfl (by kernel_rfl) (by kernel_rfl) (by kernel_rfl) (fun _ _ _ h => h) (Or.inr ⟨by kernel_rfl, rfl⟩) (Below.refl _ _) ?_
            simp only [Act.put, List.setIfInBounds_toArray, List.set_cons_zero, List.set_cons_succ]
            refine wpAnyH_take (i := 10) (oi := { dst := some 87, op := Op.pick (Operand.tmp 79) (Operand.tmp 86) (Operand.const (Value.bool false)), type := 4, pos := "law.go:142", after := #[{ on := 2, ground := Ground.data }, { on := 9, ground := Ground.data }], guard := none }) (v := .bool false) rfl (by kernel_rfl) (by kernel_rfl) (by kernel_rfl) (fun _ _ _ h => h) (Or.inl ⟨by kernel_rfl, fun W hSW => by go_simp⟩) (Below.refl _ _) ?_
            simp only [Act.put, List.setIfInBounds_toArray, List.set_cons_zero, List.set_cons_succ]
            refine wpAnyH_take (i := 11) (oi := { dst := some 88, op := Op.move (Operand.tmp 87), type := 4, pos := "law.go:142", after := #[{ on := 10, ground := Ground.data }, { on := 7, ground := Ground.chain }], guard := none }) (v := .bool false) rfl (by kernel_rfl) (by kernel_rfl) (by kernel_rfl) (fun _ _ _ h => h) (Or.inl ⟨by kernel_rfl, fun W hSW => by go_simp⟩) (Below.refl _ _) ?_
            simp only [Act.put, List.setIfInBounds_toArray, List.set_cons_zero, List.set_cons_succ]
            refine wpAnyH_take (i := 12) (oi := { dst := some 89, op := Op.move (Operand.tmp 8), type := 26, pos := "law.go:142", after := #[{ on := 11, ground := Ground.guard }], guard := some (11, false) }) (v := .int .i64 0) rfl (by kernel_rfl) (by kernel_rfl) (by kernel_rfl) (fun _ _ _ h => h) (Or.inl ⟨by kernel_rfl, fun W hSW => by go_simp⟩) (Below.refl _ _) ?_
            simp only [Act.put, List.setIfInBounds_toArray, List.set_cons_zero, List.set_cons_succ]
            refine wpAnyH_take (i := 13) (oi := { dst := some 90, op := Op.binOp BinOp.eql 26 (Operand.tmp 89) (Operand.const (Value.int IntKind.i64 0)) 26, type := 4, pos := "law.go:142", after := #[{ on := 12, ground := Ground.data }, { on := 11, ground := Ground.guard }], guard := some (11, false) }) (v := .bool true) rfl (by kernel_rfl) (by kernel_rfl) (by kernel_rfl) (fun _ _ _ h => h) (Or.inl ⟨by kernel_rfl, fun W hSW => by go_simp⟩) (Below.refl _ _) ?_
            simp only [Act.put, List.setIfInBounds_toArray, List.set_cons_zero, List.set_cons_succ]
            refine wpAnyH_take (i := 14) (oi := { dst := some 91, op := Op.move (Operand.tmp 90), type := 4, pos := "law.go:142", after := #[{ on := 13, ground := Ground.data }, { on := 11, ground := Ground.chain }, { on := 11, ground := Ground.guard }], guard := some (11, false) }) (v := .bool true) rfl (by kernel_rfl) (by kernel_rfl) (by kernel_rfl) (fun _ _ _ h => h) (Or.inl ⟨by kernel_rfl, fun W hSW => by go_simp⟩) (Below.refl _ _) ?_
            simp only [Act.put, List.setIfInBounds_toArray, List.set_cons_zero, List.set_cons_succ]
            refine wpAnyH_take (i := 15) (oi := { dst := some 92, op := Op.move (Operand.tmp 6), type := 31, pos := "law.go:142", after := #[{ on := 14, ground := Ground.guard }], guard := some (14, true) }) (v := .pointer (some ⟨g, 0, none⟩)) rfl (by kernel_rfl) (by kernel_rfl) (by kernel_rfl) (fun _ _ _ h => h) (Or.inl ⟨by kernel_rfl, fun W hSW => by go_simp⟩) (Below.refl _ _) ?_
            simp only [Act.put, List.setIfInBounds_toArray, List.set_cons_zero, List.set_cons_succ]
            refine wpAnyH_take (i := 18) (oi := { dst := some 95, op := Op.move (Operand.tmp 0), type := 22, pos := "law.go:142", after := #[{ on := 14, ground := Ground.guard }], guard := some (14, true) }) (v := .slice (some ⟨b, o, none⟩) n c) rfl (by kernel_rfl) (by kernel_rfl) (by kernel_rfl) (fun _ _ _ h => h) (Or.inl ⟨by kernel_rfl, fun W hSW => by go_simp⟩) (Below.refl _ _) ?_
            simp only [Act.put, List.setIfInBounds_toArray, List.set_cons_zero, List.set_cons_succ]
            refine wpAnyH_take (i := 19) (oi := { dst := some 96, op := Op.move (Operand.tmp 5), type := 3, pos := "law.go:142", after := #[{ on := 14, ground := Ground.guard }], guard := some (14, true) }) (v := .int .i64 (k : Int)) rfl (by kernel_rfl) (by kernel_rfl) (by kernel_rfl) (fun _ _ _ h => h) (Or.inl ⟨by kernel_rfl, fun W hSW => by go_simp⟩) (Below.refl _ _) ?_
            simp only [Act.put, List.setIfInBounds_toArray, List.set_cons_zero, List.set_cons_succ]
            refine wpAnyH_take (i := 20) (oi := { dst := some 97, op := Op.indexAddr 22 (Operand.tmp 95) (Operand.tmp 96), type := 0, pos := "law.go:142", after := #[{ on := 18, ground := Ground.data }, { on := 19, ground := Ground.data }, { on := 14, ground := Ground.guard }], guard := some (14, true) }) (v := .pointer (some ⟨b, o + k * 3, none⟩)) rfl (by kernel_rfl) (by kernel_rfl) (by kernel_rfl) (fun _ _ _ h => h) (Or.inl ⟨by kernel_rfl, fun W hSW => by go_simp⟩) (Below.refl _ _) ?_
            simp only [Act.put, List.setIfInBounds_toArray, List.set_cons_zero, List.set_cons_succ]
            refine wpAnyH_take (i := 21) (oi := { dst := some 98, op := Op.fieldAddr 30 (Operand.tmp 97) 0, type := 0, pos := "law.go:142", after := #[{ on := 20, ground := Ground.data }, { on := 14, ground := Ground.guard }], guard := some (14, true) }) (v := .pointer (some ⟨b, o + k * 3, none⟩)) rfl (by kernel_rfl) (by kernel_rfl) (by kernel_rfl) (fun _ _ _ h => h) (Or.inl ⟨by kernel_rfl, fun W hSW => by go_simp⟩) (Below.refl _ _) ?_
            simp only [Act.put, List.setIfInBounds_toArray, List.set_cons_zero, List.set_cons_succ]
            refine wpAnyH_take (i := 22) (oi := { dst := some 99, op := Op.load 28 (Operand.tmp 98), type := 28, pos := "law.go:142", after := #[{ on := 21, ground := Ground.data }, { on := 14, ground := Ground.guard }], guard := some (14, true) }) (v := .slice x.adr m x.room) rfl (by kernel_rfl) (by kernel_rfl) (by kernel_rfl) (fun _ _ _ h => h) (Or.inl ⟨by kernel_rfl, fun W hSW => by have hcv := HCB.out W (HSX.out W hSW); go_simp⟩) (Below.refl _ _) ?_
            simp only [Act.put, List.setIfInBounds_toArray, List.set_cons_zero, List.set_cons_succ]
            obtain ⟨SB, hSB⟩ : ∃ S, S = Oct.str x.bs := ⟨_, rfl⟩
            have HSBS := Lib.hid hSB
            clear hSB
            refine wpAnyH_take (i := 23) (oi := { dst := some 100, op := Op.convert 28 9 (Operand.tmp 99), type := 9, pos := "law.go:142", after := #[{ on := 22, ground := Ground.data }, { on := 14, ground := Ground.guard }], guard := some (14, true) }) (v := .string SB) rfl (by kernel_rfl) (by kernel_rfl) (by kernel_rfl) (fun _ _ _ h => h) (Or.inl ⟨by kernel_rfl, fun W hSW => by have hrun := run_str x.room (HRB.out W (HSX.out W hSW)); rw [← HSBS.out] at hrun; go_simp⟩) (Below.refl _ _) ?_
            simp only [Act.put, List.setIfInBounds_toArray, List.set_cons_zero, List.set_cons_succ]
            refine wpAnyH_ready (rs := [16]) (by kernel_rfl) (by simp) ?_
            refine AllReadyH.cons (o := { dst := some 93, op := Op.call { callee := Callee.value (Operand.func 11), args := #[Operand.tmp 92], argTypes := #[31] }, type := 28, pos := "law.go:142", after := #[{ on := 15, ground := Ground.data }, { on := 14, ground := Ground.chain }, { on := 14, ground := Ground.guard }], guard := some (14, true) }) rfl (fun K' hK' => ?_) AllReadyH.nil
            go_simp
            go_at_call 11
            refine (cell_gets O7.out).mono ?_
            rintro E w8 ⟨A8, n8, c8, rfl, H8⟩
            have B8 : Hid (Below w7.heap.size w7 w8) := Lib.hid H8.out.2.2
            refine hK'.out _ _ B8.out (fun _ => wpAnyH_next B8.out ?_)
            clear hK' K'
            have HR8 : Hid (∀ W, Below w8.heap.size w8 W → Oct.Rd W A8 n8 x.bs) := Lib.hid fun W hb => H8.out.2.1.below hb
            refine wpAnyH_take (i := 17) (oi := { dst := some 94, op := Op.convert 28 9 (Operand.tmp 93), type := 9, pos := "law.go:142", after := #[{ on := 16, ground := Ground.data }, { on := 14, ground := Ground.guard }], guard := some (14, true) }) (v := .string SB) rfl (by kernel_rfl) (by kernel_rfl) (by kernel_rfl) (fun _ _ _ h => h) (Or.inl ⟨by kernel_rfl, fun W hSW => by have hrun := run_str c8 (HR8.out W hSW); rw [← HSBS.out] at hrun; go_simp⟩) (Below.refl _ _) ?_
            simp only [Act.put, List.setIfInBounds_toArray, List.set_cons_zero, List.set_cons_succ]
            refine wpAnyH_take (i := 24) (oi := { dst := some 101, op := Op.binOp BinOp.neq 9 (Operand.tmp 94) (Operand.tmp 100) 9, type := 4, pos := "law.go:142", after := #[{ on := 17, ground := Ground.data }, { on := 23, ground := Ground.data }, { on := 14, ground := Ground.guard }], guard := some (14, true) }) (v := .bool false) rfl (by kernel_rfl) (by kernel_rfl) (by kernel_rfl) (fun _ _ _ h => h) (Or.inl ⟨by kernel_rfl, fun W hSW => by go_simp⟩) (Below.refl _ _) ?_
            simp only [Act.put, List.setIfInBounds_toArray, List.set_cons_zero, List.set_cons_succ]
            refine wpAnyH_take (i := 25) (oi := { dst := some 102, op := Op.pick (Operand.tmp 91) (Operand.tmp 101) (Operand.const (Value.bool false)), type := 4, pos := "law.go:142", after := #[{ on := 14, ground := Ground.data }, { on := 24, ground := Ground.data }, { on := 11, ground := Ground.guard }], guard := some (11, false) }) (v := .bool false) rfl (by kernel_rfl) (by kernel_rfl) (by kernel_rfl) (fun _ _ _ h => h) (Or.inl ⟨by kernel_rfl, fun W hSW => by go_simp⟩) (Below.refl _ _) ?_
            simp only [Act.put, List.setIfInBounds_toArray, List.set_cons_zero, List.set_cons_succ]
            refine wpAnyH_take (i := 26) (oi := { dst := some 103, op := Op.pick (Operand.tmp 88) (Operand.const (Value.bool true)) (Operand.tmp 102), type := 4, pos := "law.go:142", after := #[{ on := 11, ground := Ground.data }, { on := 25, ground := Ground.data }], guard := none }) (v := .bool false) rfl (by kernel_rfl) (by kernel_rfl) (by kernel_rfl) (fun _ _ _ h => h) (Or.inl ⟨by kernel_rfl, fun W hSW => by go_simp⟩) (Below.refl _ _) ?_
            simp only [Act.put, List.setIfInBounds_toArray, List.set_cons_zero, List.set_cons_succ]
            refine wpAnyH_done (by kernel_rfl) ?_ _
            have D17 : Hid (Dat w d (20 + 10 * k + 10) s6 [] w8) := Lib.hid H8.out.1.dat
            clear H8 B8 HR8 O7 HSX
            have cp := HCP.out _ D17.out.below
            go_wp2_with fail
            refine (dat_off D17.out).mono ?_
            rintro E w8 ⟨rfl, h8⟩
            have D8 := Lib.hid h8
            clear h8 cp D17
            have cp := HCP.out _ D8.out.below
            have HON2 := Lib.hid (dat_on D8.out (by omega) x.padr pm x.proom x.picks (HRP.out _ D8.out.below) HSP.out)
            rw [HON.out] at HON2
            go_wp2_with fail
            refine HON2.out.mono ?_
            rintro E w9 ⟨rfl, h9⟩
            have D9 := Lib.hid h9
            clear h9 cp D8 HON2
            go_wp2_with fail
            have HNEW : Hid (CellIs s9 0 (1 - a) (tk + 1) x.bs (2 + k + 1)) := Lib.hid (by
              rcases HCI.out with h | ⟨_, i, hi, hne⟩
              · exact h
              · exact absurd (HK6.out (by trivial) i hi) hne)
            clear HCI HK6
            refine (cell_open D9.out HC9.out.1.1 (x := 0) (by omega) HNEW.out).mono ?_
            rintro E w10 ⟨g2, rfl, O10⟩
            clear D9
            go_wp2_with fail
            refine (cell_get O10.out).mono ?_
            rintro E w11 ⟨A11, n11, c11, rfl, H11⟩
            clear O10
            have hrun := run_str c11 H11.out.2.1
            rw [← HSBS.out] at hrun
            have hrun2 := run_str x.room (HRB.out _ H11.out.1.dat.below)
            rw [← HSBS.out] at hrun2
            have cb := HCB.out _ H11.out.1.dat.below
            go_wp2_with fail
            go_roundw
            case measure => simp [intOf]; omega
            case rel => exact ⟨k + 1, by omega, by go_num, x.bs, 1 - a, tk + 1, s9, by rw [HSBS.out], H11.out.1.dat, HC9.out.1, HC9.out.2, HNEW.out⟩
          · subst h8
            have H6' : Hid ((∃ A0 n0 c0 sl0, w6.heap[g]? = some (cellOf d 0 A0 n0 c0 sl0 true)) ∧ Dat w d (20 + 10 * k + 10) s6 [] w6) := Lib.hid (by
              rcases H6.out with ⟨_, h1, h2, _⟩ | ⟨h, _⟩
              · exact ⟨h1, h2⟩
              · exact absurd h (by decide))
            clear H6
            obtain ⟨A0, n0, cc0, sl0, hg0⟩ := H6'.out.1
            have HPF : Hid (∀ q, Calls Try.prog 13 #[.pointer (some ⟨g, 0, none⟩), .slice none 0 0] (w6.drewN q) fun E w' => E = .returned (.int .i64 8) ∧ w6.drewN q = w') := Lib.hid fun q => put_failed (w := w6.drewN q) hg0 none 0 0 (by omega)
            clear hg0
            go_wp2_with fail
            go_quiet (first | (go_at_call 13; exact (HPF.out _).mono fun _ _ h => ⟨h.1, _, h.2.symm⟩))
            have D17 : Hid (Dat w d (20 + 10 * k + 10) s6 [] (w6.drewN nq)) := Lib.hid (H6'.out.2.next ⟨rfl, rfl, rfl, Nat.le_refl _, fun _ _ => rfl⟩)
            clear H6' HPF
            generalize w6.drewN nq = w7 at D17 ⊢
            have cp := HCP.out _ D17.out.below
            go_wp2_with fail
            refine (dat_off D17.out).mono ?_
            rintro E w8 ⟨rfl, h8⟩
            have D8 := Lib.hid h8
            clear h8 cp D17
            have cp := HCP.out _ D8.out.below
            have HON2 := Lib.hid (dat_on D8.out (by omega) x.padr pm x.proom x.picks (HRP.out _ D8.out.below) HSP.out)
            rw [HON.out] at HON2
            go_wp2_with fail
            refine HON2.out.mono ?_
            rintro E w9 ⟨rfl, h9⟩
            have D9 := Lib.hid h9
            clear h9 cp D8 HON2
            go_wp2_with fail
            obtain ⟨SB, hSB⟩ : ∃ S, S = Oct.str x.bs := ⟨_, rfl⟩
            have HSBS := Lib.hid hSB
            clear hSB HK6
            rcases HCI.out with HNEW | ⟨HOLD, -⟩
            · have HNEW := Lib.hid HNEW
              clear HCI
              refine (cell_open D9.out HC9.out.1.1 (x := 0) (by omega) HNEW.out).mono ?_
              rintro E w10 ⟨g2, rfl, O10⟩
              clear D9
              go_wp2_with fail
              refine (cell_get O10.out).mono ?_
              rintro E w11 ⟨A11, n11, c11, rfl, H11⟩
              clear O10
              have hrun := run_str c11 H11.out.2.1
              rw [← HSBS.out] at hrun
              have hrun2 := run_str x.room (HRB.out _ H11.out.1.dat.below)
              rw [← HSBS.out] at hrun2
              have cb := HCB.out _ H11.out.1.dat.below
              go_wp2_with fail
              go_roundw
              case measure => simp [intOf]; omega
              case rel => exact ⟨k + 1, by omega, by go_num, x.bs, 1 - a, tk + 1, s9, by rw [HSBS.out], H11.out.1.dat, HC9.out.1, HC9.out.2, HNEW.out⟩
            · have HOLD := Lib.hid HOLD
              clear HCI
              refine (cell_open D9.out HC9.out.1.1 (x := 0) (by omega) HOLD.out).mono ?_
              rintro E w10 ⟨g2, rfl, O10⟩
              clear D9
              go_wp2_with fail
              refine (cell_get O10.out).mono ?_
              rintro E w11 ⟨A11, n11, c11, rfl, H11⟩
              clear O10
              have hrun := run_str c11 H11.out.2.1
              rw [← HS.out] at hrun
              have hrun2 := run_str x.room (HRB.out _ H11.out.1.dat.below)
              rw [← HSBS.out] at hrun2
              have cb := HCB.out _ H11.out.1.dat.below
              go_wp2_with fail
              all_goals exact ⟨⟨k + 1, by omega, by go_num, bs, a, na, s9, by rw [HS.out], H11.out.1.dat, HC9.out.1, HC9.out.2, HOLD.out⟩, by simp [intOf]; omega⟩
        · go_wp2_with (first | (go_at_call 7; refine (HW.out _).mono ?_; rintro E wz ⟨rfl, hbz⟩))
          all_goals (go_ret; exact ⟨rfl, HD.out.1.below.trans (hbz.mono HD.out.1.below.size)⟩)
      · go_wp2_with fail
        refine (HW.out wr).mono ?_
        rintro E wz ⟨rfl, hb⟩
        go_wp2
        go_ret
        exact ⟨rfl, HD.out.1.below.trans (hb.mono HD.out.1.below.size)⟩
  · go_enter Try.func3, Try.ntmps3
    go_wp2_with (first | (go_at_call 7; refine (HW.out _).mono ?_; rintro E wz ⟨rfl, hb⟩))
    go_ret
    exact ⟨rfl, hb⟩
end Go.Proofs.Ytiphfeefbiiolaa
