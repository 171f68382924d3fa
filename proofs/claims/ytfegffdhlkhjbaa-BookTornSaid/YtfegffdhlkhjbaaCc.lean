/-
  What is proved: the function that goes through a slot's sectors, as it is ranged over. Conditions as stated.
-/
import Derived.Test.YtfegffdhlkhjbaaCb
import Derived.RangeFuncSeq
import Derived.TacticsInMore
import Derived.LoopNIn
import Derived.LoopIn
import Derived.OwnWalkIn
namespace Go.Proofs.Ytfegffdhlkhjbaa
open Go.RowKit
set_option maxRecDepth 100000
attribute [local go_sem] Oper.semAt_some

set_option maxHeartbeats 4000000 in
theorem sectors_goes (A : Option Addr) (n c : Nat) (bs : List UInt8) (count g1 g2 : Nat) (hs : Oct.Sl A n c) (hn : n ≤ 1100) (hlen : bs.length = n) :
    Goes Try.prog 71 #[.pointer (some ⟨g1, 0, none⟩), .pointer (some ⟨g2, 0, none⟩)] (fun k => #[.int .i64 (k : Int), .agg (u8s (sect count bs k)).toArray]) 10
      [(g1, .cells #[.slice A n c] 29 (0, 0)), (g2, .cells #[.int .u64 (count : Int)] 61 (0, 0))] (fun W => Oct.Rd W A n bs) := by
  intro l J Jx L W hJ hL hP h0 hY
  have HS := Lib.hid hs
  have HJ := Lib.hid hJ
  have HY := Lib.hid hY
  have HP := Lib.hid hP
  have HG1 : Hid (∀ k L' W, J k L' W → (∀ p ∈ L, p ∈ L') → W.cell? ⟨g1, 0, none⟩ = some (.slice A n c)) := Lib.hid fun k L' W h hl => block_cell (C := [.slice A n c]) ((hJ k).get h (hl _ (hL _ (.head _)))) 0 _ rfl
  have HG2 : Hid (∀ k L' W, J k L' W → (∀ p ∈ L, p ∈ L') → W.cell? ⟨g2, 0, none⟩ = some (.int .u64 (count : Int))) := Lib.hid fun k L' W h hl => block_cell (C := [.int .u64 (count : Int)]) ((hJ k).get h (hl _ (hL _ (.tail _ (.head _))))) 0 _ rfl
  have H0 := Lib.hid h0
  have HLN := Lib.hid hlen
  have hwr : IntKind.u16.wrap (n : Int) = (n : Int) := by rw [IntKind.wrap_u16]; omega
  clear hs hJ hY hP h0 hL hlen
  refine callsIn_of_wp Try.func71 rfl trivial ?_ rfl
  simp only [Try.ntmps71, List.size_toArray, List.length_cons, List.length_nil, Nat.reduceAdd, Nat.reduceSub, Array.replicate_succ, Array.replicate_zero, List.push_toArray, List.append_toArray, List.nil_append, List.cons_append]
  refine wpIn_seq_k (fun K hK => ?_)
  have HK := Lib.hid hK
  clear hK
  refine wpIn_wide.2 ?_
  refine wp_region_any (by kernel_rfl) ?_
  change wpAny _ _ _ _ _ _ _ (W.drewN 1)
  have H1 : Hid (J 0 L (W.drewN 1)) := Lib.hid ((HJ.out 0).next H0.out ⟨rfl, rfl, rfl, Nat.le_refl _, fun _ _ => rfl⟩)
  clear H0
  generalize W.drewN 1 = w1 at H1 ⊢
  refine wpAny_of_held (S := fun W => W.cell? ⟨g1, 0, none⟩ = some (.slice A n c)) _ _ _ _ ?_
  refine wpAnyH_take (i := 0) (oi := { dst := some 7, op := Op.load 29 (Operand.tmp 1), type := 29, pos := "cell.go:157", after := #[], guard := none }) (v := .slice A n c) rfl (by kernel_rfl) (by kernel_rfl) (by kernel_rfl) (fun _ _ _ h => h) (Or.inl ⟨by kernel_rfl, fun W hSW => by have hcv := hSW; go_simp⟩) (HG1.out _ _ _ H1.out (fun _ h => h)) ?_
  simp only [Act.put, List.setIfInBounds_toArray, List.set_cons_zero, List.set_cons_succ]
  refine wpAnyH_take (i := 1) (oi := { dst := some 8, op := Op.call { callee := Callee.builtin Builtin.len, args := #[Operand.tmp 7], argTypes := #[29] }, type := 3, pos := "cell.go:157", after := #[{ on := 0, ground := Ground.data }], guard := none }) (v := .int .i64 (n : Int)) rfl (by kernel_rfl) (by kernel_rfl) (by kernel_rfl) (fun _ _ _ h => h) (Or.inl ⟨by kernel_rfl, fun W hSW => by go_simp⟩) (HG1.out _ _ _ H1.out (fun _ h => h)) ?_
  simp only [Act.put, List.setIfInBounds_toArray, List.set_cons_zero, List.set_cons_succ]
  refine wpAnyH_take (i := 2) (oi := { dst := some 9, op := Op.convert 3 92 (Operand.tmp 8), type := 92, pos := "cell.go:157", after := #[{ on := 1, ground := Ground.data }], guard := none }) (v := .int .u16 (n : Int)) rfl (by kernel_rfl) (by kernel_rfl) (by kernel_rfl) (fun _ _ _ h => h) (Or.inl ⟨by kernel_rfl, fun W hSW => by have hwr := hwr; go_simp⟩) (HG1.out _ _ _ H1.out (fun _ h => h)) ?_
  simp only [Act.put, List.setIfInBounds_toArray, List.set_cons_zero, List.set_cons_succ]
  refine wpAnyH_take (i := 4) (oi := { dst := some 11, op := Op.load 29 (Operand.tmp 1), type := 29, pos := "cell.go:157", after := #[], guard := none }) (v := .slice A n c) rfl (by kernel_rfl) (by kernel_rfl) (by kernel_rfl) (fun _ _ _ h => h) (Or.inl ⟨by kernel_rfl, fun W hSW => by have hcv := hSW; go_simp⟩) (HG1.out _ _ _ H1.out (fun _ h => h)) ?_
  simp only [Act.put, List.setIfInBounds_toArray, List.set_cons_zero, List.set_cons_succ]
  refine wpAnyH_ready (rs := [3]) (by kernel_rfl) (by simp) ?_
  refine AllReadyH.cons (o := { dst := some 10, op := Op.call { callee := Callee.value (Operand.func 66), args := #[Operand.const (Value.slice none 0 0), Operand.tmp 9], argTypes := #[29, 92] }, type := 29, pos := "cell.go:157", after := #[{ on := 2, ground := Ground.data }], guard := none }) rfl (fun K' hK' => ?_) AllReadyH.nil
  go_simp
  go_at_call 66
  refine (Oct.half_any none 0 0 [] n w1 ⟨rfl, fun h => absurd h (by omega)⟩ (by omega)).mono ?_
  rintro E w2 ⟨g, c', rfl, ho, hb⟩
  have H2 : Hid (J 0 L w2) := Lib.hid ((HJ.out 0).next H1.out hb)
  have HO := Lib.hid ho
  clear ho
  refine hK'.out _ _ (HG1.out _ _ _ H2.out (fun _ h => h)) (fun _ => ?_)
  clear hK' K'
  refine wpAnyH_ready (rs := [5]) (by kernel_rfl) (by simp) ?_
  refine AllReadyH.cons (o := { dst := some 12, op := Op.call { callee := Callee.builtin Builtin.append, args := #[Operand.tmp 10, Operand.tmp 11], argTypes := #[29, 29] }, type := 29, pos := "cell.go:157", after := #[{ on := 3, ground := Ground.data }, { on := 4, ground := Ground.data }, { on := 3, ground := Ground.chain }], guard := none }) rfl (fun K' hK' => ?_) AllReadyH.nil
  refine step_append_oct rfl (.tmp 10) (.tmp 11) rfl w1.heap.size 2 n c _ A (Oct.be 2 n) bs rfl rfl HO.out (HP.out _ _ _ H2.out) HS.out hb.size (by omega) ?_
  intro A' c2 w3 h3 g3
  obtain ⟨g', cap, cur, hv, hB, hcap, hcap2, hg', hrow⟩ := own_block h3.out.1 (by omega)
  injection hv with hv1 hv2 hv3
  subst hv1 hv3
  have hb3 : Below w1.heap.size w1 w3 := hb.grown g3.out hb.size (fun k e => by injection e with e; subst e; exact (HO.out.lt _ rfl).1)
  have H3 : Hid (J 0 ((g', .cells cur 5 (0, 0)) :: L) w3) := Lib.hid ((HJ.out 0).fresh H1.out hb3 hB hg')
  have HRW : Hid (∀ W : World, W.heap[g']? = some (.cells cur 5 (0, 0)) → Oct.Rd W (some ⟨g', 0, none⟩) (n + 2) (slotRow bs)) := Lib.hid (by rw [slotRow, HLN.out, Nat.add_comm n 2]; exact hrow)
  clear hrow h3 g3 hg' HO
  refine hK'.out _ _ (HG1.out _ _ _ H3.out (fun _ h => .tail _ h)) (fun _ => ?_)
  clear hK' K' H2 hb hB hb3 H1
  refine wpAnyH_take (i := 6) (oi := { dst := some 4, op := Op.assign (Operand.tmp 12), type := 29, pos := "cell.go:157", after := #[{ on := 5, ground := Ground.data }, { on := 5, ground := Ground.chain }, { on := 0, ground := Ground.phase }, { on := 1, ground := Ground.phase }, { on := 2, ground := Ground.phase }, { on := 3, ground := Ground.phase }, { on := 4, ground := Ground.phase }, { on := 5, ground := Ground.phase }], guard := none }) (v := .slice (some ⟨g', 0, none⟩) (2 + n) c2) rfl (by kernel_rfl) (by kernel_rfl) (by kernel_rfl) (fun _ _ _ h => h) (Or.inl ⟨by kernel_rfl, fun W hSW => by go_simp⟩) (HG1.out _ _ _ H3.out (fun _ h => .tail _ h)) ?_
  simp only [Act.put, List.setIfInBounds_toArray, List.set_cons_zero, List.set_cons_succ]
  refine wpAnyH_done (by kernel_rfl) ?_ _
  refine HK.out _ _ ?_
  clear HK K
  have HW2 : Hid (2 + n = n + 2) := Lib.hid (Nat.add_comm _ _)
  rw [HW2.out]
  gi_wp2
  have hcap' : n + 2 ≤ c2 := by omega
  gi_loopw [4, 13] (fun v4 v13 wr => ∃ k : Nat, k ≤ 10 ∧ v13 = .int .i64 (k : Int) ∧ ∃ B m cm, v4 = .slice B m cm ∧ Oct.Sl B m cm ∧ Hid (m = ((slotRow bs).drop (120 * k)).length ∧ ∀ W : World, W.heap[g']? = some (.cells cur 5 (0, 0)) → Oct.Rd W B m ((slotRow bs).drop (120 * k))) ∧ ∃ L', Hid ((g', .cells cur 5 (0, 0)) ∈ L' ∧ ∀ p ∈ L, p ∈ L') ∧ Hid (J k L' wr)) (fun _ v13 _ => 10 - (intOf v13).toNat)
  case atStart => exact ⟨0, by omega, rfl, _, _, _, rfl, ⟨(fun h => by cases h), hcap', hcap2⟩, ⟨by rw [Nat.mul_zero, List.drop_zero, slotRow_length, HLN.out], fun W h => by rw [Nat.mul_zero, List.drop_zero]; exact HRW.out W h⟩, _, ⟨.head _, fun _ h => .tail _ h⟩, H3⟩
  case round =>
    clear H3 HRW hcap hcap' hcap2
    obtain ⟨k, hk, rfl, B, m, cm, rfl, hsl, HM, L', HL', HJk⟩ := hrel
    by_cases hkk : k < 10
    · obtain ⟨Z, hZ⟩ : ∃ Z, Z = u8s zeros := ⟨_, rfl⟩
      have hz : ∀ w, (zeroValue 43).run Try.prog w = .ok (.agg Z.toArray) w := by rw [hZ]; exact zero33
      have HZ := Lib.hid hZ
      have ZL : Hid (Z.length = 128) := Lib.hid (by rw [hZ, u8s_length]; rfl)
      clear hZ
      gi_wp2
      rename_i K5 hK5
      have HK5 := Lib.hid hK5
      clear hK5 hz
      refine wpIn_wide.2 ?_
      refine wp_region_any (by kernel_rfl) ?_
      change wpAny _ _ _ _ _ _ _ ((wr.alloc (.cells Z.toArray 43)).drewN 1)
      have B1 : Hid (Below wr.heap.size wr ((wr.alloc (.cells Z.toArray 43)).drewN 1)) := Lib.hid (((Below.refl _ wr).alloc (Nat.le_refl _) _).trans ⟨rfl, rfl, rfl, Nat.le_refl _, fun _ _ => rfl⟩)
      have Q1 : Hid (((wr.alloc (.cells Z.toArray 43)).drewN 1).heap[wr.heap.size]? = some (.cells Z.toArray 43 (0, 0))) := Lib.hid (row_new wr Z 43)
      generalize (wr.alloc (.cells Z.toArray 43)).drewN 1 = w1 at B1 Q1 ⊢
      have HS2 : Hid (∀ W, Below wr.heap.size wr W → W.cell? ⟨g2, 0, none⟩ = some (.int .u64 (count : Int))) := Lib.hid fun W hb => HG2.out _ _ _ ((HJ.out k).next HJk.out hb) HL'.out.2
      obtain ⟨q, hq⟩ : ∃ q, q = wr.heap.size := ⟨_, rfl⟩
      have HQ := Lib.hid hq
      rw [← hq] at Q1 ⊢
      clear hq
      refine wpAny_of_held (S := fun W => W.cell? ⟨g2, 0, none⟩ = some (.int .u64 (count : Int))) _ _ _ _ ?_
      refine wpAnyH_take (i := 0) (oi := { dst := some 16, op := Op.slice 43 (Operand.tmp 6) none none none, type := 29, pos := "cell.go:160", after := #[], guard := none }) (v := .slice (some ⟨q, 0, none⟩) 128 128) rfl (by kernel_rfl) (by kernel_rfl) (by kernel_rfl) (fun _ _ _ h => h) (Or.inl ⟨by kernel_rfl, fun W hSW => by go_simp⟩) (HS2.out _ B1.out) ?_
      simp only [Act.put, List.setIfInBounds_toArray, List.set_cons_zero, List.set_cons_succ]
      refine wpAnyH_take (i := 1) (oi := { dst := some 17, op := Op.load 61 (Operand.tmp 2), type := 61, pos := "cell.go:160", after := #[], guard := none }) (v := .int .u64 (count : Int)) rfl (by kernel_rfl) (by kernel_rfl) (by kernel_rfl) (fun _ _ _ h => h) (Or.inl ⟨by kernel_rfl, fun W hSW => by have hcv := hSW; go_simp⟩) (HS2.out _ B1.out) ?_
      simp only [Act.put, List.setIfInBounds_toArray, List.set_cons_zero, List.set_cons_succ]
      refine wpAnyH_ready (rs := [2]) (by kernel_rfl) (by simp) ?_
      refine AllReadyH.cons (o := { dst := some 18, op := Op.call { callee := Callee.value (Operand.func 27), args := #[Operand.const (Value.slice none 0 0), Operand.tmp 17], argTypes := #[29, 61] }, type := 29, pos := "cell.go:160", after := #[{ on := 1, ground := Ground.data }], guard := none }) rfl (fun K' hK' => ?_) AllReadyH.nil
      go_simp
      go_at_call 27
      refine (Oct.word_any none 0 0 [] count w1 ⟨rfl, fun h => absurd h (by omega)⟩ (by omega)).mono ?_
      rintro E w2 ⟨gw, cw, rfl, ho, hb⟩
      have B2 : Hid (Below wr.heap.size wr w2) := Lib.hid (B1.out.trans (hb.mono B1.out.size))
      have Q2 : Hid (w2.heap[q]? = some (.cells Z.toArray 43 (0, 0))) := Lib.hid ((hb.block q (Array.getElem?_eq_some_iff.1 Q1.out).1).trans Q1.out)
      have HO : Hid (Oct.Rd w2 (some ⟨gw, 0, none⟩) 8 (Oct.be 8 count)) := Lib.hid (Oct.Rd.of_own ho)
      clear ho hb B1 Q1
      refine hK'.out _ _ (HS2.out _ B2.out) (fun _ => ?_)
      clear hK' K'
      refine wpAnyH_ready (rs := [3]) (by kernel_rfl) (by simp) ?_
      refine AllReadyH.cons (o := { dst := some 19, op := Op.call { callee := Callee.builtin Builtin.copy, args := #[Operand.tmp 16, Operand.tmp 18], argTypes := #[29, 29] }, type := 3, pos := "cell.go:160", after := #[{ on := 0, ground := Ground.data }, { on := 2, ground := Ground.data }, { on := 2, ground := Ground.chain }], guard := none }) rfl (fun K' hK' => ?_) AllReadyH.nil
      refine step_copy_splice rfl (.tmp 16) (.tmp 18) 29 29 rfl 5 Try.underlying29 Try.size5 (some ⟨q, 0, none⟩) (some ⟨gw, 0, none⟩) 128 128 8 cw rfl rfl q 0 Z 43 Q2.out (u8s (Oct.be 8 count)) (by rw [u8s_length, Oct.be_length]; rfl) (fun hp => ⟨rfl, HO.out.src (Below.refl _ w2) hp⟩) (by rw [u8s_length, Oct.be_length, ZL.out]; omega) (u8s_one _) wr.heap.size wr B2.out (by rw [HQ.out]; exact Nat.le_refl _) ?_
      intro w3 Q3 b3
      have B3 := Lib.hid b3
      clear b3 B2 Q2 HO
      refine hK'.out _ _ (HS2.out _ B3.out) (fun _ => ?_)
      clear hK' K'
      refine wpAnyH_done (by kernel_rfl) ?_ _
      refine HK5.out _ _ ?_
      clear HK5 K5 HS2
      refine wpIn_seq_k (fun K6 hK6 => ?_)
      have HK6 := Lib.hid hK6
      clear hK6
      refine wpIn_wide.2 ?_
      obtain ⟨jj, hjj⟩ : ∃ jj, jj = (partOf bs k).length := ⟨_, rfl⟩
      have hj1 : jj = min 120 m := by rw [hjj, partOf, List.length_take, HM.out.1]
      have hsl1 := hsl.2.1
      have hsl2 := hsl.2.2
      have HN := Lib.hid (next_rest hsl HM.out hj1)
      have hjm : jj ≤ m := by omega
      have hj2 : jj ≤ 120 := by omega
      have HJ1 := Lib.hid hj1
      clear hsl hj1
      have UP : Hid ((u8s (partOf bs k)).length = jj) := Lib.hid (by rw [u8s_length, hjj])
      clear hjj
      go_wp2_with (first
        | ((refine wpList_copy_splice rfl (.tmp 21) (.tmp 22) 29 29 rfl 5 Try.underlying29 Try.size5 (some ⟨q, 8, none⟩) B 120 120 m cm rfl rfl q 8 (splice Z 0 (u8s (Oct.be 8 count))) 43 Q3.out (u8s (partOf bs k)) (by rw [UP.out, HJ1.out]; exact Nat.min_comm _ _) (fun hp => ⟨rfl, part_src (HM.out.2 w3 ((HJ.out k).get ((HJ.out k).next HJk.out B3.out) HL'.out.1)) hp⟩) (by rw [UP.out, length_splice _ _ _ (by rw [u8s_length, Oct.be_length, ZL.out]; omega), ZL.out]; omega) (u8s_one _) wr.heap.size wr B3.out (by rw [HQ.out]; exact Nat.le_refl _) ?_); intro w4 Q4 b4; rw [UP.out]))
      all_goals
        refine HK6.out _ _ ?_
        clear HK6 K6
        have J4 : J k ((q, .cells (u8s (sect count bs k)).toArray 43 (0, 0)) :: L') w4 := (HJ.out k).fresh HJk.out b4 (by rw [HQ.out]; exact Nat.le_refl _) (by have := Q4.out; rwa [HZ.out, splice_sect] at this)
        have R4 : Hid (w4.rangeAt q 0 (u8s (sect count bs k))) := Lib.hid (range_block ((HJ.out k).get J4 (.head _)) 0 _ (fun j v hv => by rw [Nat.zero_add]; exact hv))
        have UI : Hid ((Try.prog.info? 43).map (·.size) = some (u8s (sect count bs k)).length) := Lib.hid (by rw [u8s_length, sect_length]; exact Try.size43)
        obtain ⟨fn, tmps, assign, body, hy, hR⟩ := HY.out k _ w4 hkk J4
        clear Q4 b4 J4 UP HJ1 hjm hj2
        generalize sect count bs k = sx at hy hR R4 UI
        gi_wp2_with (first | (refine wpListIn_plain rfl fun KL hKL => oper_wide (wp_load_mid 43 (.tmp 6) rfl q 0 rfl (u8s sx) _ R4.out Try.underlying43 rfl UI.out ?_); refine hKL _ _ ?_; clear hKL KL))
        have HN1 := HN.out.1
        have HN2 := HN.out.2
        first | (rw [if_neg (by omega)] at HN1 HN2) | (rw [if_pos (by omega), show cm - jj = 0 by omega] at HN1; rw [if_pos (by omega)] at HN2)
        have HS1 := Lib.hid HN1
        have HS3 := Lib.hid HN2
        clear HN1 HN2 HN
        refine ⟨rfl, hR.mono ?_⟩
        clear hy hR
        rintro e W' (⟨rfl, hJ'⟩ | ⟨rfl, hJx'⟩)
        · have HJ' := Lib.hid hJ'
          clear hJ'
          gi_wp2
          go_roundw
          case measure => simp [intOf]; omega
          case rel => exact ⟨k + 1, by omega, by go_num, _, _, _, rfl, HS1.out, HS3.out, _, ⟨.tail _ HL'.out.1, fun p h => .tail _ (HL'.out.2 p h)⟩, HJ'⟩
        · gi_wp2
          refine bodyPost_ret (results_none rfl _ _ _) rfl ?_
          exact ⟨⟨_, rfl⟩, .inr hJx'⟩
    · obtain rfl : k = 10 := by omega
      gi_wp2
      go_end0
      exact ⟨⟨_, rfl⟩, .inl ((HJ.out 10).sub HJk.out HL'.out.2)⟩
end Go.Proofs.Ytfegffdhlkhjbaa
