/-
  What is proved: StateNil's walk. Conditions as stated.
  What is proved: what the program's text lays in its variables; StateNil, of what came in. Conditions as stated.
-/
import Derived.Test.YtpageppjngbnpaaGreatDoorB2
import Derived.Test.YtpageppjngbnpaaGreatDoorAK
namespace Go.Proofs.YtpageppjngbnpaaGreatDoor
open Go.RowKit
set_option maxRecDepth 100000

theorem digest_none (w : World) : Calls Tryz.prog 15 #[.pointer none] w fun E w' => E = .returned (.agg (Sh.u8s (List.replicate 32 0)).toArray) ∧ Below w.heap.size w w' := by
  have hz : ∀ w : World, (zeroValue 39).run Tryz.prog w = .ok (.agg (Sh.u8s (List.replicate 32 0)).toArray) w := fun w => by kernel_rfl
  have hzl : (Sh.u8s (List.replicate 32 0)).length = 32 := rfl
  have hzn : ¬ (Sh.u8s (List.replicate 32 0) = []) := by decide
  have HOL : Hid ((Sh.u8s (List.replicate 32 0)).length = 32) := Lib.hid rfl
  have HOO := Lib.hid (Sh.u8s_one (List.replicate 32 0))
  obtain ⟨Z, hZ⟩ : ∃ Z, Z = Sh.u8s (List.replicate 32 0) := ⟨_, rfl⟩
  rw [← hZ] at hz hzl hzn HOL HOO
  rw [← hZ]
  have HIO : Hid ((Tryz.prog.info? 39).map (·.size) = some Z.length) := Lib.hid (by rw [HOL.out]; exact Sh.Tryz.size39)
  clear hZ
  go_enter Tryz.func15, Tryz.ntmps15
  have HT : Hid ((w.alloc (.cells Z.toArray 39)).there w.heap.size 0 Z.length) := Lib.hid (by simpa using Sh.there_new w Z.toArray 39)
  go_wp2_with (refine Sh.wpList_store_cells rfl 39 (.tmp 2) (.tmp 6) rfl w.heap.size 0 Z rfl rfl HT.out HIO.out HOO.out ?_)
  exact bodyPost_ret (ret_range (cs := Z) rfl rfl (World.rangeAt_setCells_same _ _ _ Z HT.out) Tryz.underlying39 rfl HIO.out) rfl ⟨rfl, Sh.below_setCells (Nat.le_refl _) _ _ _ ((Below.refl _ _).alloc (Nat.le_refl _) _)⟩
theorem wpList_make_one {ops : Array Oper} {rest : List Oper} {o : Oper} {a : Act} {w : World} {Q : Exit → Act → World → Prop} (hg : o.guard = none) (x : Operand) (q : MRq) (ht : q.tag.length = 32) (ho : o.op = .buildSlice 22 1 #[(0, x)]) (hx : a.eval x = .agg (rqC q).toArray)
    (h : wpList Tryz.prog ops Q rest (a.put o.dst (.slice (some ⟨w.heap.size, 0, none⟩) 1 1)) (w.alloc (.cells (rqC q).toArray 41))) : wpList Tryz.prog ops Q (o :: rest) a w :=
  wpList_plain hg fun K hK => by
    have e : ((#[(0, x)] : Array (Nat × Operand)).map fun (i, x) => (i, a.eval x)) = #[(0, .agg (rqC q).toArray)] := by simp [hx]
    unfold Oper.wp execOp
    simp only [ho, e, Sem.run_bind, build_one q ht w, Result.andThen_ok]
    exact hK _ _ h
set_option maxHeartbeats 16000000 in
theorem nil_walk {w : World} (hv : Vars w) (hk : Sh.KIs w) (q : MRq) (ht : q.tag.length = 32) (hn : q.time < 18446744073709551616 ∧ q.op.amount < 18446744073709551616 ∧ (Lit.int .i64 q.client).wf = true) :
    Calls Tryz.prog 5 #[.agg (rqC q).toArray] w fun E w' => E = .returned (.bool true) ∧ Below w.heap.size w w' := by
  have HW : Hid (∀ W os, Fr w W os → Calls Tryz.prog 8 #[] W fun E w' => E = .returned (.bool true) ∧ Below W.heap.size W w') := Lib.hid fun W os H => works_any H.varsW H.ksW
  have HI : Hid ((Tryz.prog.info? 41).map (·.size) = some (rqC q).length) := Lib.hid (by rw [rqC_length, ht]; exact Tryz.is41)
  have HFew : Hid (∀ W b, W.heap[b]? = some (.cells (rqC q).toArray 41 (0, 0)) → Calls Tryz.prog 7 #[.slice (some ⟨b, 0, none⟩) 1 1] W fun E w' => (∃ z, E = .returned (.bool z)) ∧ Below W.heap.size W w') := Lib.hid fun W b h => (sfew_any _ 1 [q] W (rqs_one h ht hn) (by simp)).mono fun E w' h => ⟨let ⟨z, h1, _⟩ := h.1; ⟨z, h1⟩, h.2⟩
  have HD : Hid (∀ W, Calls Tryz.prog 11 #[.pointer none, .agg (rqC q).toArray] W fun E w' => E = .returned (.tuple #[.agg #[.int .i64 2, .string ⟨#[]⟩], .bool false]) ∧ Below W.heap.size W w') := Lib.hid fun W => do_none q W
  have HT := Lib.hid ht
  have H1 := Lib.hid ((Fr.start hv hk).box (rqC q).toArray 41)
  have H2 := Lib.hid (H1.out.box' (k := w.heap.size + 1) (by simp) (rqC q).toArray 41)
  clear hv hk ht hn
  go_enter Tryz.func5, Tryz.ntmps5
  go_wp2_with (first
    | ((with_reducible refine wpList_load_midG ?_ 41 (.tmp 1) ?_ w.heap.size 0 ?_ (rqC q) _ ?_ Tryz.underlying41 ?_ ?_ ?_); rotate_left; (· rfl); (· rfl); (· exact range_all H1.out.hd); (· rfl); (· exact HI.out); rotate_left; (· rfl))
    | (refine wpList_make_one rfl (.tmp 6) q HT.out rfl rfl ?_)
    | (go_at_call 7; refine (HFew.out _ _ H2.out.hd).mono ?_))
  rintro E w3 ⟨⟨z, rfl⟩, b3⟩
  have H3 := Lib.hid (H2.out.below b3)
  clear b3 H1 H2 HT HFew
  cases z with
  | false =>
    go_wp2_with (go_at_call 8; refine (HW.out _ _ H3.out).mono ?_; rintro E w4 ⟨rfl, b4⟩)
    go_ret
    exact ⟨rfl, (H3.out.below b4).bel⟩
  | true =>
    go_wp2_with (first
      | ((with_reducible refine wpList_load_midG ?_ 41 (.tmp 1) ?_ w.heap.size 0 ?_ (rqC q) _ ?_ Tryz.underlying41 ?_ ?_ ?_); rotate_left; (· rfl); (· rfl); (· exact range_all H3.out.hd2); (· rfl); (· exact HI.out); rotate_left; (· rfl))
      | (go_at_call 11; refine (HD.out _).mono ?_; rintro E w4 ⟨rfl, b4⟩; have H4 := Lib.hid ((H3.out.below b4).box #[.int .i64 2, .string ⟨#[]⟩] 33); clear b4 H3))
    have g47 := Tryz.guard47
    have e47 : ∀ w, (Op.equalIn 10000 47 (.agg (lsC zL).toArray) (.agg #[.int .u64 0, .int .i64 0, .string ⟨#[]⟩])).run Tryz.prog w = .ok true w := fun w => eq_lst_of (d := 9997) zL zL (by simp) w
    have hz39 : ∀ w : World, (zeroValue 39).run Tryz.prog w = .ok (.agg (Sh.u8s (List.replicate 32 0)).toArray) w := fun w => by kernel_rfl
    have hzl : (Sh.u8s (List.replicate 32 0)).length = 32 := rfl
    have hzn : ¬ (Sh.u8s (List.replicate 32 0) = []) := by decide
    have g39 := Sh.Tryz.guard39
    have e39 := Sh.eq_bytes (List.replicate 32 0) rfl
    have HDn : Hid (∀ w : World, Calls Tryz.prog 15 #[.pointer none] w fun E w' => E = .returned (.agg (Sh.u8s (List.replicate 32 0)).toArray) ∧ Below w.heap.size w w') := Lib.hid digest_none
    obtain ⟨Z, hZ⟩ : ∃ Z, Z = Sh.u8s (List.replicate 32 0) := ⟨_, rfl⟩
    rw [← hZ] at hz39 hzl hzn e39 HDn
    obtain ⟨L, hL⟩ : ∃ L, L = (lsC zL).toArray := ⟨_, rfl⟩
    have HLn : Hid (∀ w : World, Calls Tryz.prog 22 #[.pointer none, .int .i64 1] w fun E w' => E = .returned (.agg L) ∧ Below w.heap.size w w') := Lib.hid fun w => by rw [hL]; exact last_none 1 w
    rw [← hL] at e47
    clear hZ hL
    go_wp2_with (first
      | (go_at_call 17; refine (count_none _).mono ?_; rintro E w5 ⟨rfl, rfl⟩)
      | (go_at_call 22; refine (HLn.out _).mono ?_; rintro E w6 ⟨rfl, b6⟩; have H6 := Lib.hid (H4.out.below b6); clear b6 H4)
      | (go_at_call 19; refine (items_none _).mono ?_; rintro E w7 ⟨rfl, rfl⟩)
      | (go_at_call 13; refine (bytes_none _).mono ?_; rintro E w8 ⟨rfl, rfl⟩)
      | (go_at_call 15; refine (HDn.out _).mono ?_; rintro E w9 ⟨rfl, b9⟩; have H9 := Lib.hid (H6.out.below b9); clear b9 H6)
      | (go_at_call 8; refine (HW.out _ _ H9.out).mono ?_; rintro E w10 ⟨rfl, b10⟩; have H10 := Lib.hid (H9.out.below b10); clear b10 H9))
    go_ret
    exact ⟨rfl, H10.out.bel⟩
open Go.RowKit
set_option maxRecDepth 100000

theorem all_of_laid {W : World} (h : laidMet Tryz.prog [("math/bits.deBruijn32tab", Rows.laid_math_bits_deBruijn32tab), ("math/bits.deBruijn64tab", Rows.laid_math_bits_deBruijn64tab), ("internal/strconv.uint64pow10", Rows.laid_internal_strconv_uint64pow10), ("ratchet/sha.k", Rows.laid_ratchet_sha_k), ("strconv.ErrRange", Rows.laid_strconv_ErrRange), ("strconv.ErrSyntax", Rows.laid_strconv_ErrSyntax)] W) : Vars W ∧ Sh.KIs W := by
  have h2 := h.tail.tail
  have hk := h2.tail
  have h3 := hk.tail
  have h4 := h3.tail
  have hT : Lib.TabIs Tryz.prog W "internal/strconv.uint64pow10" .u64 Lib.pow10Tab :=
    Lib.tabIs_of_head Tryz.g4 (t := 188) (e := 36) (n := 20) (by kernel_rfl) Tryz.underlying188 Tryz.underlying36 Tryz.cc36 (by kernel_rfl) (rest := [("ratchet/sha.k", Rows.laid_ratchet_sha_k), ("strconv.ErrRange", Rows.laid_strconv_ErrRange), ("strconv.ErrSyntax", Rows.laid_strconv_ErrSyntax)]) h2
  have hR : ∃ tp p, W.var? Tryz.prog "strconv.ErrRange" = some #[.iface tp p] := by
    obtain ⟨a, s, hv, _⟩ := laid_sentinel (ti := 164) (tp := 192) (te := 194) (ts := 9) h3 Tryz.g3 (by kernel_rfl) Tryz.underlying164 Tryz.row192 Tryz.underlying192 Tryz.underlying194 rfl rfl Tryz.underlying9 (by kernel_rfl) Tryz.cc9
    exact ⟨_, _, hv⟩
  have hS : ∃ tp p, W.var? Tryz.prog "strconv.ErrSyntax" = some #[.iface tp p] := by
    obtain ⟨a, s, hv, _⟩ := laid_sentinel (ti := 164) (tp := 192) (te := 194) (ts := 9) h4 Tryz.g2 (by kernel_rfl) Tryz.underlying164 Tryz.row192 Tryz.underlying192 Tryz.underlying194 rfl rfl Tryz.underlying9 (by kernel_rfl) Tryz.cc9
    exact ⟨_, _, hv⟩
  have hK : Lib.TabIs Tryz.prog W "ratchet/sha.k" .u32 (Sh.K.map fun x => (x.toNat : Int)) :=
    Lib.tabIs_of_head Sh.gK Sh.tK Tryz.underlying133 Tryz.underlying105 Sh.Tryz.cells105 Sh.c42 (rest := [("strconv.ErrRange", Rows.laid_strconv_ErrRange), ("strconv.ErrSyntax", Rows.laid_strconv_ErrSyntax)]) hk
  refine ⟨⟨hS, hR, hT⟩, fun i hi => ?_⟩
  have := hK.cell Sh.gK i (by simpa [Sh.K_length] using hi)
  rw [this]
  simp [List.getD_eq_getElem?_getD, List.getElem?_eq_getElem (l := Sh.K) (i := i) (by rw [Sh.K_length]; exact hi)]
def zRq : Value := .agg #[.int .i64 0, .int .u64 0, .int .u8 0, .string ByteArray.empty, .string ByteArray.empty, .string ByteArray.empty, .string ByteArray.empty, .int .u64 0, .int .u8 0, .int .u8 0, .int .u8 0, .int .u8 0, .int .u8 0, .int .u8 0, .int .u8 0, .int .u8 0, .int .u8 0, .int .u8 0, .int .u8 0, .int .u8 0, .int .u8 0, .int .u8 0, .int .u8 0, .int .u8 0, .int .u8 0, .int .u8 0, .int .u8 0, .int .u8 0, .int .u8 0, .int .u8 0, .int .u8 0, .int .u8 0, .int .u8 0, .int .u8 0, .int .u8 0, .int .u8 0, .int .u8 0, .int .u8 0, .int .u8 0, .int .u8 0]
theorem nil_in (W : World) (hv : Vars W ∧ Sh.KIs W) (v : Value) (h : ∃ q : MRq, v = .agg (rqC q).toArray ∧ q.tag.length = 32 ∧ (q.time < 18446744073709551616 ∧ q.op.amount < 18446744073709551616 ∧ (Lit.int .i64 q.client).wf = true)) : Calls Tryz.prog 5 #[v] W fun E w' => E = .returned (.bool true) ∧ Below W.heap.size W w' := by
  obtain ⟨q, rfl, ht, hn⟩ := h
  exact nil_walk hv.1 hv.2 q ht hn
end Go.Proofs.YtpageppjngbnpaaGreatDoor
