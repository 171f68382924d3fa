/-
  What is proved: the small questions to a lore. Conditions as stated.
-/
import Derived.Test.YtgdcnakcjomllaaDoorF2p
import Derived.Test.YtgdcnakcjomllaaDoorV2p
namespace Go.Proofs.YtgdcnakcjomllaaDoor.Sh
open Go.RowKit
set_option maxRecDepth 100000

theorem known_any {W : World} {b n : Nat} {A : Nat → Option Addr} {C : Nat → Nat} {L : List MMsg} (h : LoreAt W b n A C L) {i : Nat} (hi : i < 11) (o : Int) (ho : o = (i : Int) + 1) :
    Calls Tryd.prog 14 #[.pointer (some ⟨b, 0, none⟩), .int .i64 o] W fun E W' => E = .returned (.int .u64 (cnt L i : Int)) ∧ W = W' := by
  have hw : IntKind.i64.wrap (o - 1) = (i : Int) := by rw [IntKind.wrap_i64]; omega
  have hle := h.cnt_le hi
  have hw2 : IntKind.u64.wrap (cnt L i : Int) = (cnt L i : Int) := by rw [IntKind.wrap_u64]; omega
  have hc := h.cell hi
  have h0 : (0 : Int) ≤ (i : Int) := by omega
  have h1 : (i : Int) < 11 := by omega
  have h2 : (i : Int).toNat = i := by omega
  clear ho hle h
  go_enter Tryd.func14, Tryd.ntmps14
  go_wp2
  go_ret
  exact ⟨rfl, rfl⟩

/-- The first j numbers of a row of eleven are laid. -/
def upTo (l : List Nat) (j : Nat) : List Value := u64s (l.take j) ++ List.replicate (11 - j) (.int .u64 0)
theorem upTo_zero (l : List Nat) : upTo l 0 = List.replicate 11 (.int .u64 0) := by simp [upTo, u64s]
theorem upTo_all {l : List Nat} (hl : l.length = 11) : upTo l 11 = u64s l := by simp [upTo, List.take_of_length_le (Nat.le_of_eq hl)]
theorem upTo_get {l : List Nat} (hl : l.length = 11) {j : Nat} (hj : j < 11) : (upTo l j)[j]? = some (.int .u64 0) := by
  have e : (u64s (l.take j)).length = j := by simp [u64s]; omega
  rw [upTo, List.getElem?_append_right (by omega), e, Nat.sub_self, List.getElem?_replicate, if_pos (by omega)]
theorem upTo_set {l : List Nat} (hl : l.length = 11) {j x : Nat} (hj : j < 11) (hx : l[j]? = some x) : (upTo l j).set j (.int .u64 (x : Int)) = upTo l (j + 1) := by
  have e : (u64s (l.take j)).length = j := by simp [u64s]; omega
  rw [upTo, List.set_append_right _ _ (by omega), e, Nat.sub_self, show 11 - j = (11 - (j + 1)) + 1 by omega, List.replicate_succ, List.set_cons_zero, upTo, List.take_add_one, hx]
  simp [u64s]
def z11 : List Nat := List.replicate 11 0
theorem z11_cells : u64s z11 = List.replicate 11 (.int .u64 0) := by simp [z11, u64s]
theorem zero_vec (w : World) : (zeroValue 24).run Tryd.prog w = .ok (.agg (u64s z11).toArray) w := by kernel_rfl
theorem info_vec {l : List Nat} (h : l.length = 11) : (Tryd.prog.info? 24).map (·.size) = some (u64s l).length := by rw [u64s_length, h]; exact Tryd.is24
set_option maxHeartbeats 2000000 in
theorem knowns_any {W : World} {b n : Nat} {A : Nat → Option Addr} {C : Nat → Nat} {L : List MMsg} (h : LoreAt W b n A C L) (hk : KIs W) (h0 : 0 < W.heap.size) :
    Calls Tryd.prog 9 #[.pointer (some ⟨b, 0, none⟩)] W fun E W' => E = .returned (.agg (u64s (kn L)).toArray) ∧ Below W.heap.size W W' := by
  have hz := zero_vec
  have HZ : Hid (u64s z11 = upTo (kn L) 0) := Lib.hid (by rw [upTo_zero, z11_cells])
  have HK := Lib.hid (fun (W' : World) (hb : Below W.heap.size W W') (i : Nat) (hi : i < 11) => known_any (h.below hb) hi ((i : Int) + 1) rfl)
  have HG := Lib.hid (fun (i : Nat) (hi : i < 11) => kn_get L hi)
  have HL := Lib.hid (kn_length L)
  have HI := Lib.hid (info_vec (kn_length L))
  have hzl : (u64s z11).length = 11 := rfl
  have hzn : ¬ (u64s z11 = []) := by decide
  have HO := Lib.hid (one_u64s (kn L))
  obtain ⟨l, hl⟩ : ∃ l, l = kn L := ⟨_, rfl⟩
  rw [← hl] at HZ HG HL HI HO
  rw [← hl]
  clear hl
  have H2 := Lib.hid (((Fr.start hk h0).box (u64s z11).toArray 24).box' (k := W.heap.size + 1) (by simp) (u64s z11).toArray 24)
  obtain ⟨Z, hZ⟩ : ∃ Z, Z = u64s z11 := ⟨_, rfl⟩
  rw [← hZ] at hz hzl hzn HZ H2
  have H2 : Hid (Fr W ((W.alloc (.cells Z.toArray 24)).alloc (.cells Z.toArray 24)) [blkT (W.heap.size + 1) (upTo l 0).toArray 24, blkT W.heap.size Z.toArray 24]) := Lib.hid (by rw [← HZ.out]; exact H2.out)
  have HZL := Lib.hid hzl
  clear hZ HZ hk h0 h
  go_enter Tryd.func9, Tryd.ntmps9
  go_wp2_with fail
  go_loopw [8] (fun v8 wr => ∃ j : Nat, j ≤ 11 ∧ v8 = .int .i64 (j : Int) ∧ Hid (Fr W wr [blkT (W.heap.size + 1) (upTo l j).toArray 24, blkT W.heap.size Z.toArray 24])) (fun v8 _ => 11 - (intOf v8).toNat)
  case atStart => exact ⟨0, by omega, rfl, H2⟩
  case round =>
    clear H2
    obtain ⟨j, hj, rfl, D⟩ := hrel
    by_cases hjj : j < 11
    · have hdec : decide ((j : Int) < (11 : Int)) = true := decide_eq_true (by omega)
      have hj0 : (0 : Int) ≤ (j : Int) := by omega
      have hjn : (j : Int) < (11 : Int) := by omega
      have htn : ((j : Int)).toNat = j := by omega
      have hw1 : IntKind.i64.wrap ((j : Int) + 1) = (j : Int) + 1 := by rw [IntKind.wrap_i64]; omega
      obtain ⟨x, hx⟩ : ∃ x, x = cnt L j := ⟨_, rfl⟩
      have hg := HG.out j hjj
      have hk := HK.out wr D.out.bel j hjj
      rw [← hx] at hk hg
      have HX := Lib.hid hg
      have HK2 := Lib.hid hk
      clear hx hk hg
      have hc : wr.cell? ⟨W.heap.size + 1, j, none⟩ = some (.int .u64 0) := block_cell D.out.hd j _ (upTo_get HL.out hjj)
      have hf : wr.frozen? ⟨W.heap.size + 1, j, none⟩ = false := free_block D.out.hd j
      go_wp2_with (go_at_call 14; refine HK2.out.mono ?_; rintro E w2 ⟨rfl, rfl⟩)
      have D' : Hid (Fr W (wr.setCell ⟨W.heap.size + 1, j, none⟩ (.int .u64 (x : Int))) [blkT (W.heap.size + 1) (upTo l (j + 1)).toArray 24, blkT W.heap.size Z.toArray 24]) := Lib.hid (by have := D.out.set j (.int .u64 (x : Int)); rw [upTo_set HL.out hjj HX.out] at this; exact this)
      clear D
      go_roundw
      case measure => simp [intOf] <;> omega
      case rel => exact ⟨j + 1, by omega, by go_num, D'⟩
    · obtain rfl : j = 11 := by omega
      have HT : Hid (wr.there W.heap.size 0 (u64s l).length) := Lib.hid (there_block D.out.hd2 0 _ (by rw [u64s_length, HL.out, HZL.out]; exact Nat.le_refl _))
      go_wp2_with (first | ((with_reducible refine wpList_load_midG ?_ 24 (.tmp 3) ?_ (W.heap.size + 1) 0 ?_ (u64s l) _ ?_ Tryd.underlying24 ?_ ?_ ?_); rotate_left; (· rfl); (· rfl); (· exact by have := range_of D.out.hd; rw [upTo_all HL.out] at this; exact this); (· rfl); (· exact HI.out); rotate_left; (· rfl)) | (refine wpList_store_cells rfl 24 (.tmp 2) (.tmp 18) rfl W.heap.size 0 (u64s l) rfl rfl HT.out HI.out HO.out ?_))
      exact bodyPost_ret (ret_range (cs := u64s l) rfl rfl (World.rangeAt_setCells_same _ _ _ (u64s l) HT.out) Tryd.underlying24 rfl HI.out) rfl ⟨rfl, below_setCells (Nat.le_refl _) _ _ _ D.out.bel⟩

theorem idx_svs {S : List Value} {j : Nat} {v : Value} (hj : j < 11) (hv : S[j]? = some v) (w : World) : (Instr.index 51 (.agg S.toArray) (.int .i64 (j : Int))).run Tryd.prog w = .ok v w := by
  have hs : (Tryd.prog.info? 50).map (·.size) = some 1 := by kernel_rfl
  have h0 : (0 : Int) ≤ (j : Int) ∧ (j : Int) < 11 := by omega
  cases hq : Tryd.prog.info? 50 with
  | none => simp [hq] at hs
  | some i =>
    have h1 : i.size = 1 := by simpa [hq] using hs
    simp [Instr.index, run_underlying Tryd.underlying51, asIntOf, h0, sizeOf, typeInfo, hq, h1, part, hv]
    intro h
    omega
set_option maxHeartbeats 2000000 in
theorem len_any {W : World} {b n : Nat} {A : Nat → Option Addr} {C : Nat → Nat} {L : List MMsg} (h : LoreAt W b n A C L) :
    Calls Tryd.prog 11 #[.pointer (some ⟨b, 0, none⟩)] W fun E W' => E = .returned (.int .i64 (L.length : Int)) ∧ W = W' := by
  have HS := Lib.hid h.sum
  have HF := Lib.hid (fun (i : Nat) (hi : i < 11) => svs_get A C L hi)
  have HR := Lib.hid h.all
  have HI : Hid ((Tryd.prog.info? 51).map (·.size) = some (svs A C L).length) := Lib.hid (by rw [svs_length]; kernel_rfl)
  have HLe := Lib.hid h.few
  have HSL := Lib.hid (fun (j : Nat) (hj : j ≤ 11) => Nat.le_trans (sumTo_le L hj) (Nat.le_trans (Nat.le_of_eq h.sum) h.few))
  obtain ⟨S, hS⟩ : ∃ S, S = svs A C L := ⟨_, rfl⟩
  have hSL := svs_length A C L
  rw [← hS] at HF HR HI hSL
  clear hS h
  have HSE := Lib.hid hSL
  clear hSL
  go_enter Tryd.func11, Tryd.ntmps11
  go_wp2_with ((with_reducible refine wpList_load_midG ?_ 51 (.tmp 10) ?_ b 1 ?_ S _ ?_ Tryd.underlying51 ?_ ?_ ?_); rotate_left; (· rfl); (· rfl); (· exact HR.out); (· rfl); (· exact HI.out); rotate_left; (· rfl))
  go_loop [3, 12] (fun v3 v12 => ∃ j : Nat, j ≤ 11 ∧ v12 = .int .i64 (j : Int) ∧ v3 = .int .i64 (sumTo L j : Int)) (fun _ v12 => 11 - (intOf v12).toNat)
  case atStart => exact ⟨0, by omega, rfl, rfl⟩
  case round =>
    obtain ⟨j, hj, rfl, rfl⟩ := hrel
    by_cases hjj : j < 11
    · have hdec : decide ((j : Int) < (11 : Int)) = true := decide_eq_true (by omega)
      have hj0 : (0 : Int) ≤ (j : Int) := by omega
      have hjn : (j : Int) < (11 : Int) := by omega
      have htn : ((j : Int)).toNat = j := by omega
      have hw1 : IntKind.i64.wrap ((j : Int) + 1) = (j : Int) + 1 := by rw [IntKind.wrap_i64]; omega
      have hg := HF.out j hjj
      have hx1 := fun w => idx_svs hjj hg w
      obtain ⟨x, hx⟩ : ∃ x, x = cnt L j := ⟨_, rfl⟩
      have hs : sumTo L (j + 1) = sumTo L j + x := by rw [hx]; rfl
      have hle := HSL.out (j + 1) (by omega)
      have hw : IntKind.i64.wrap ((sumTo L j : Int) + (x : Int)) = ((sumTo L (j + 1) : Nat) : Int) := by rw [IntKind.wrap_i64]; omega
      rw [sv, ← hx] at hx1
      clear hg
      have HGs := Lib.hid hs
      clear hs hle hx
      go_wp2_with fail
      go_round
      case measure => simp [intOf] <;> omega
      case rel => exact ⟨j + 1, by omega, by go_num, rfl⟩
    · obtain rfl : j = 11 := by omega
      go_wp2_with fail
      go_ret
      exact ⟨by rw [HS.out]; rfl, rfl⟩
end Go.Proofs.YtgdcnakcjomllaaDoor.Sh
