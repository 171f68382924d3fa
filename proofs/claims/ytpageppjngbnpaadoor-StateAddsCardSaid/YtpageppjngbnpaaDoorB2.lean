/-
  What is proved: a new state; a request done; what a state tells. Conditions as stated.
  What is proved: the reader: what is needed, the next bytes. Conditions as stated.
  What is proved: the reader: the next number, the next text. Conditions as stated.
  What is proved: the reader: what clients were answered, all of them. Conditions as stated.
  What is proved: the reader: the ledger's items, all of them. Conditions as stated.
  What is proved: the state of bytes. Conditions as stated.
  What is proved: what is read of a state's bytes, and of no other ones. Conditions as stated.
  What is proved: what holds of each state that requests make. Conditions as stated.
  What is proved: the statements' own example (works). Conditions as stated.
-/
import Derived.Test.YtpageppjngbnpaaDoorB1
import Derived.Laws.Bits64b
import Derived.Test.YtpageppjngbnpaaDoorAV
namespace Go.Proofs.YtpageppjngbnpaaDoor
open Go.RowKit
set_option maxRecDepth 100000

def stT (s t g : Nat) (r : Option Nat) (c : Nat) (S : MSt) : Thing := ⟨fun W => StAt W s t g r c S, fun k => OnT g r t k ∨ k = s⟩
theorem stT_ok (s t g : Nat) (r : Option Nat) (c : Nat) (S : MSt) : (stT s t g r c S).Ok := ⟨fun _ _ h hk h5 => StAt.kept h h5 hk, fun _ h k hk => StAt.on_lt h k hk⟩
/-- One request more. -/
def MSt.next (S : MSt) (q : MRq) : MSt := ⟨(S.n + 1) % 18446744073709551616, (tR S.T S.xs q).2.1, (tR S.T S.xs q).2.2⟩
def S0 : MSt := ⟨0, zT, []⟩
section
variable {w W W' : World} {s t g : Nat} {r : Option Nat} {c : Nat} {S : MSt} {os : List Thing}
theorem StAt.ne (h : StAt W s t g r c S) : ¬ On g r t := h.sys.apart h.tbl.top (by decide) (by decide)
theorem StAt.sne (h : StAt W s t g r c S) : ¬ OnT g r t s := by
  rintro (e | e)
  · exact h.sys.apart h.top (by decide) (by decide) e
  · have := h.top
    rw [e, h.tbl.top] at this
    injection this with this
    injection this with _ this
    revert this
    decide
theorem StAt.inc (h : StAt W s t g r c S) (hs5 : 4 ≤ s) : StAt (W.setCell ⟨s, 0, none⟩ (.int .u64 (((S.n + 1) % 18446744073709551616 : Nat) : Int))) s t g r c ⟨(S.n + 1) % 18446744073709551616, S.T, S.xs⟩ ∧ Own W (stT s t g r c S).F (W.setCell ⟨s, 0, none⟩ (.int .u64 (((S.n + 1) % 18446744073709551616 : Nat) : Int))) (stT s t g r c S).F := by
  have hk : ∀ k, k ≠ s → (W.setCell ⟨s, 0, none⟩ (.int .u64 (((S.n + 1) % 18446744073709551616 : Nat) : Int))).heap[k]? = W.heap[k]? := fun k hn => Below.heap_setCell W ⟨s, 0, none⟩ _ k hn
  refine ⟨⟨heap_set (k := 0) (C := [.int .u64 (S.n : Int), .pointer (some ⟨t, 0, none⟩), .pointer (some ⟨g, 0, none⟩)]) h.top _, h.tbl.kept (hk t fun e => h.sne (e ▸ .inr rfl)), h.sys.off (fun k h5 => hk k (by omega)) (fun k ho => hk k fun e => h.sne (e ▸ .inl ho)), h.low, Nat.mod_lt _ (by decide)⟩, Own.same (Turns.setCell (S := (stT s t g r c S).F) (Turns.refl _ W) (.inl (.inr rfl)) 0 _)⟩
theorem StAt.did (h : StAt W s t g r c S) {q : MRq} {E : Ending} (hd : SDoP W t S.T g r S.xs q E W') :
    E = .returned (.tuple #[.agg (lrC (tR S.T S.xs q).1.1).toArray, .bool (tR S.T S.xs q).1.2]) ∧ ∃ r' c', StAt W' s t g r' c' ⟨S.n, (tR S.T S.xs q).2.1, (tR S.T S.xs q).2.2⟩ ∧ Own W (stT s t g r c S).F W' (stT s t g r' c' S).F := by
  obtain ⟨he, r', c', h1, h2, _, h4⟩ := hd
  refine ⟨he, r', c', ⟨(h4.1.block s h.lt h.sne).trans h.top, h1, h2, h.low, h.num⟩, h4.1.mono fun k hk => .inl hk, ?_⟩
  rintro k (e | e)
  · exact (h4.2 k e).elim (fun e => .inl (.inl e)) .inr
  · exact .inl (.inr e)
theorem Fr.inc (H : Fr w W (stT s t g r c S :: os)) : Fr w (W.setCell ⟨s, 0, none⟩ (.int .u64 (((S.n + 1) % 18446744073709551616 : Nat) : Int))) (stT s t g r c ⟨(S.n + 1) % 18446744073709551616, S.T, S.xs⟩ :: os) := by
  obtain ⟨h1, h2⟩ := StAt.inc H.hd (by have := H.ge s (.inr rfl); have := H.low; omega)
  exact H.turn h2 h1 (stT_ok _ _ _ _ _ _)
theorem Fr.tdo {n' : Nat} (H : Fr w W (stT s t g r c ⟨n', S.T, S.xs⟩ :: os)) (q : MRq) :
    Calls Tryd.prog 16 #[.pointer (some ⟨t, 0, none⟩), .pointer (some ⟨g, 0, none⟩), .agg (rqC q).toArray] W fun E W' => E = .returned (.tuple #[.agg (lrC (tR S.T S.xs q).1.1).toArray, .bool (tR S.T S.xs q).1.2]) ∧ ∃ r' c', Fr w W' (stT s t g r' c' ⟨n', (tR S.T S.xs q).2.1, (tR S.T S.xs q).2.2⟩ :: os) := by
  have h := H.hd
  refine (sdo_any h.tbl h.sys h.ne h.low q).mono fun E W' hd => ?_
  obtain ⟨he, r', c', h1, h2⟩ := StAt.did h hd
  exact ⟨he, r', c', H.turn h2 h1 (stT_ok _ _ _ _ _ _)⟩
end
theorem Fr.store33 {w W : World} {b2 : Nat} {os : List Thing} (H : Fr w W (blkT b2 #[.int .i64 0, .string ⟨#[]⟩] 29 :: os)) (er : Int) (vl : ByteArray) : Fr w (W.setCells b2 0 #[.int .i64 er, .string vl].toList) (blkT b2 #[.int .i64 er, .string vl] 29 :: os) := by
  have h1 := Fr.set (C := [.int .i64 0, .string ⟨#[]⟩]) H 0 (.int .i64 er)
  have h2 := Fr.set (C := [.int .i64 er, .string ⟨#[]⟩]) h1 1 (.string vl)
  exact h2
theorem Fr.back3 {w W : World} {a b c : Thing} {os : List Thing} (H : Fr w W (c :: a :: b :: os)) : Fr w W (a :: b :: c :: os) := H.perm ((List.Perm.swap ..).trans (List.Perm.cons a (List.Perm.swap ..)))
theorem Fr.rev3 {w W : World} {a b c : Thing} {os : List Thing} (H : Fr w W (a :: b :: c :: os)) : Fr w W (c :: b :: a :: os) := H.third.perm (List.Perm.cons c (List.Perm.swap ..))
set_option maxHeartbeats 2000000 in
theorem do_fr {w W : World} {s t g : Nat} {r : Option Nat} {c : Nat} {S : MSt} {os : List Thing} (H : Fr w W (stT s t g r c S :: os)) (q : MRq) (ht : q.tag.length = 32) :
    Calls Tryd.prog 7 #[.pointer (some ⟨s, 0, none⟩), .agg (rqC q).toArray] W fun E W' => E = .returned (.tuple #[.agg (lrC (tR S.T S.xs q).1.1).toArray, .bool (tR S.T S.xs q).1.2]) ∧ ∃ r' c', Fr w W' (stT s t g r' c' (S.next q) :: os) := by
  obtain ⟨er, vl, z, hres⟩ := tR_rep S.T S.xs q
  have HQI : Hid ((Tryd.prog.info? 37).map (·.size) = some (rqC q).length) := Lib.hid (by rw [rqC_length, ht]; exact Tryd.is37)
  have HD : Hid (∀ W2 os2, Fr w W2 (stT s t g r c ⟨(S.n + 1) % 18446744073709551616, S.T, S.xs⟩ :: os2) → Calls Tryd.prog 16 #[.pointer (some ⟨t, 0, none⟩), .pointer (some ⟨g, 0, none⟩), .agg (rqC q).toArray] W2 fun E W' => E = .returned (.tuple #[.agg #[.int .i64 er, .string vl], .bool z]) ∧ ∃ r' c', Fr w W' (stT s t g r' c' (S.next q) :: os2)) := Lib.hid fun W2 os2 h => by
    have := h.tdo q
    rw [hres] at this
    exact this
  have H00 := (H.box (rqC q).toArray 37).box' (k := W.heap.size + 1) (by simp) #[.int .i64 0, .string ⟨#[]⟩] 29
  have H0 := Lib.hid H00.rev3
  have HI : Hid (∀ W2 os2, Fr w W2 (stT s t g r c S :: os2) → Fr w (W2.setCell ⟨s, 0, none⟩ (.int .u64 (((S.n + 1) % 18446744073709551616 : Nat) : Int))) (stT s t g r c ⟨(S.n + 1) % 18446744073709551616, S.T, S.xs⟩ :: os2)) := Lib.hid fun W2 os2 h => h.inc
  have hw : IntKind.u64.wrap ((S.n : Int) + 1) = (((S.n + 1) % 18446744073709551616 : Nat) : Int) := by rw [IntKind.wrap_u64]; omega
  have c0 := H0.out.hd.cell.1
  have f0 : ((W.alloc (.cells (rqC q).toArray 37)).alloc (.cells #[.int .i64 0, .string ⟨#[]⟩] 29)).frozen? ⟨s, 0, none⟩ = false := free_block H0.out.hd.top 0
  have HRes := Lib.hid hres
  clear H H00 hres
  go_enter Tryd.func7, Tryd.ntmps7
  go_wp2_with fail
  have H1 := Lib.hid (HI.out _ _ H0.out)
  clear H0 HI c0 f0 hw
  refine wp_region_any (by kernel_rfl) ?_
  change wpAny _ _ _ _ _ _ _ (World.drewN _ 1)
  refine held_gen (G := fun W' => wpAny _ _ _ _ _ _ _ W') (fun W' => Fr w W' (stT s t g r c ⟨(S.n + 1) % 18446744073709551616, S.T, S.xs⟩ :: blkT W.heap.size (rqC q).toArray 37 :: blkT (W.heap.size + 1) #[.int .i64 0, .string ⟨#[]⟩] 29 :: os)) (H1.out.drewN 1) (fun w2 hw2 => ?_)
  have H2 := Lib.hid hw2
  clear hw2 H1
  generalize W.heap.size + 1 = b2 at H2 ⊢
  generalize W.heap.size = b1 at H2 ⊢
  refine wpAny_of_held (S := fun W => W.cell? ⟨s, 1, none⟩ = some (.pointer (some ⟨t, 0, none⟩)) ∧ W.cell? ⟨s, 2, none⟩ = some (.pointer (some ⟨g, 0, none⟩)) ∧ W.heap[b1]? = some (.cells (rqC q).toArray 37 (0, 0))) _ _ _ _ ?_
  refine wpAnyH_take (i := 0) (oi := { dst := some 16, op := Op.move (Operand.tmp 0), type := 25, pos := "state.go:55", after := #[], guard := none }) (v := .pointer (some ⟨s, 0, none⟩)) rfl (by kernel_rfl) (by kernel_rfl) (by kernel_rfl) (fun _ _ _ h => h) (Or.inl ⟨by kernel_rfl, fun W hSW => by go_simp⟩) (⟨H2.out.hd.cell.2.1, H2.out.hd.cell.2.2, H2.out.hd2⟩) ?_
  try simp only [Act.put, List.setIfInBounds_toArray, List.set_cons_zero, List.set_cons_succ]
  refine wpAnyH_take (i := 1) (oi := { dst := some 17, op := Op.nilCheck (Operand.tmp 16), type := 0, pos := "state.go:55", after := #[{ on := 0, ground := Ground.data }], guard := none }) (v := .pointer (some ⟨s, 0, none⟩)) rfl (by kernel_rfl) (by kernel_rfl) (by kernel_rfl) (fun _ _ _ h => h) (Or.inl ⟨by kernel_rfl, fun W hSW => by go_simp⟩) (⟨H2.out.hd.cell.2.1, H2.out.hd.cell.2.2, H2.out.hd2⟩) ?_
  try simp only [Act.put, List.setIfInBounds_toArray, List.set_cons_zero, List.set_cons_succ]
  refine wpAnyH_take (i := 2) (oi := { dst := some 18, op := Op.fieldAddr 55 (Operand.tmp 17) 1, type := 0, pos := "state.go:55", after := #[{ on := 1, ground := Ground.data }], guard := none }) (v := .pointer (some ⟨s, 1, none⟩)) rfl (by kernel_rfl) (by kernel_rfl) (by kernel_rfl) (fun _ _ _ h => h) (Or.inl ⟨by kernel_rfl, fun W hSW => by go_simp⟩) (⟨H2.out.hd.cell.2.1, H2.out.hd.cell.2.2, H2.out.hd2⟩) ?_
  try simp only [Act.put, List.setIfInBounds_toArray, List.set_cons_zero, List.set_cons_succ]
  refine wpAnyH_take (i := 3) (oi := { dst := some 19, op := Op.load 50 (Operand.tmp 18), type := 50, pos := "state.go:55", after := #[{ on := 2, ground := Ground.data }], guard := none }) (v := .pointer (some ⟨t, 0, none⟩)) rfl (by kernel_rfl) (by kernel_rfl) (by kernel_rfl) (fun _ _ _ h => h) (Or.inl ⟨by kernel_rfl, fun W hSW => by have hc := hSW.1; go_simp⟩) (⟨H2.out.hd.cell.2.1, H2.out.hd.cell.2.2, H2.out.hd2⟩) ?_
  try simp only [Act.put, List.setIfInBounds_toArray, List.set_cons_zero, List.set_cons_succ]
  refine wpAnyH_take (i := 4) (oi := { dst := some 20, op := Op.move (Operand.tmp 0), type := 25, pos := "state.go:55", after := #[], guard := none }) (v := .pointer (some ⟨s, 0, none⟩)) rfl (by kernel_rfl) (by kernel_rfl) (by kernel_rfl) (fun _ _ _ h => h) (Or.inl ⟨by kernel_rfl, fun W hSW => by go_simp⟩) (⟨H2.out.hd.cell.2.1, H2.out.hd.cell.2.2, H2.out.hd2⟩) ?_
  try simp only [Act.put, List.setIfInBounds_toArray, List.set_cons_zero, List.set_cons_succ]
  refine wpAnyH_take (i := 5) (oi := { dst := some 21, op := Op.nilCheck (Operand.tmp 20), type := 0, pos := "state.go:55", after := #[{ on := 4, ground := Ground.data }], guard := none }) (v := .pointer (some ⟨s, 0, none⟩)) rfl (by kernel_rfl) (by kernel_rfl) (by kernel_rfl) (fun _ _ _ h => h) (Or.inl ⟨by kernel_rfl, fun W hSW => by go_simp⟩) (⟨H2.out.hd.cell.2.1, H2.out.hd.cell.2.2, H2.out.hd2⟩) ?_
  try simp only [Act.put, List.setIfInBounds_toArray, List.set_cons_zero, List.set_cons_succ]
  refine wpAnyH_take (i := 6) (oi := { dst := some 22, op := Op.fieldAddr 55 (Operand.tmp 21) 2, type := 0, pos := "state.go:55", after := #[{ on := 5, ground := Ground.data }], guard := none }) (v := .pointer (some ⟨s, 2, none⟩)) rfl (by kernel_rfl) (by kernel_rfl) (by kernel_rfl) (fun _ _ _ h => h) (Or.inl ⟨by kernel_rfl, fun W hSW => by go_simp⟩) (⟨H2.out.hd.cell.2.1, H2.out.hd.cell.2.2, H2.out.hd2⟩) ?_
  try simp only [Act.put, List.setIfInBounds_toArray, List.set_cons_zero, List.set_cons_succ]
  refine wpAnyH_take (i := 7) (oi := { dst := some 23, op := Op.load 52 (Operand.tmp 22), type := 52, pos := "state.go:55", after := #[{ on := 6, ground := Ground.data }], guard := none }) (v := .pointer (some ⟨g, 0, none⟩)) rfl (by kernel_rfl) (by kernel_rfl) (by kernel_rfl) (fun _ _ _ h => h) (Or.inl ⟨by kernel_rfl, fun W hSW => by have hc := hSW.2.1; go_simp⟩) (⟨H2.out.hd.cell.2.1, H2.out.hd.cell.2.2, H2.out.hd2⟩) ?_
  try simp only [Act.put, List.setIfInBounds_toArray, List.set_cons_zero, List.set_cons_succ]
  refine wpAnyH_take (i := 8) (oi := { dst := some 24, op := Op.load 37 (Operand.tmp 3), type := 37, pos := "state.go:55", after := #[], guard := none }) (v := .agg (rqC q).toArray) rfl (by kernel_rfl) (by kernel_rfl) (by kernel_rfl) (fun _ _ _ h => h) (Or.inl ⟨by kernel_rfl, fun W hSW => exec_load_mid 37 (.tmp 3) rfl b1 0 rfl (rqC q) _ (range_all hSW.2.2) Tryd.underlying37 rfl HQI.out⟩) (⟨H2.out.hd.cell.2.1, H2.out.hd.cell.2.2, H2.out.hd2⟩) ?_
  try simp only [Act.put, List.setIfInBounds_toArray, List.set_cons_zero, List.set_cons_succ]
  refine wpAnyH_ready (rs := [9]) (by kernel_rfl) (by simp) ?_
  refine AllReadyH.cons (o := { dst := some 25, op := Op.call { callee := Callee.value (Operand.func 16), args := #[Operand.tmp 19, Operand.tmp 23, Operand.tmp 24], argTypes := #[50, 52, 37] }, type := 30, pos := "state.go:55", after := #[{ on := 3, ground := Ground.data }, { on := 7, ground := Ground.data }, { on := 8, ground := Ground.data }], guard := none }) rfl (fun K' hK' => ?_) AllReadyH.nil
  go_simp
  go_at_call 16
  refine (HD.out _ _ H2.out).mono ?_
  rintro E w3 ⟨rfl, r3, c3, h3⟩
  have H3 := Lib.hid h3
  clear h3 H2 HD
  refine hK'.out _ _ (⟨H3.out.hd.cell.2.1, H3.out.hd.cell.2.2, H3.out.hd2⟩) (fun _ => ?_)
  clear hK' K'
  try simp only [Act.put, List.setIfInBounds_toArray, List.set_cons_zero, List.set_cons_succ]
  refine wpAnyH_take (i := 10) (oi := { dst := some 26, op := Op.extract (Operand.tmp 25) 0, type := 29, pos := "state.go:55", after := #[{ on := 9, ground := Ground.data }], guard := none }) (v := .agg #[.int .i64 er, .string vl]) rfl (by kernel_rfl) (by kernel_rfl) (by kernel_rfl) (fun _ _ _ h => h) (Or.inl ⟨by kernel_rfl, fun W hSW => by go_simp⟩) (⟨H3.out.hd.cell.2.1, H3.out.hd.cell.2.2, H3.out.hd2⟩) ?_
  try simp only [Act.put, List.setIfInBounds_toArray, List.set_cons_zero, List.set_cons_succ]
  refine wpAnyH_take (i := 11) (oi := { dst := some 27, op := Op.extract (Operand.tmp 25) 1, type := 4, pos := "state.go:55", after := #[{ on := 9, ground := Ground.data }], guard := none }) (v := .bool z) rfl (by kernel_rfl) (by kernel_rfl) (by kernel_rfl) (fun _ _ _ h => h) (Or.inl ⟨by kernel_rfl, fun W hSW => by go_simp⟩) (⟨H3.out.hd.cell.2.1, H3.out.hd.cell.2.2, H3.out.hd2⟩) ?_
  try simp only [Act.put, List.setIfInBounds_toArray, List.set_cons_zero, List.set_cons_succ]
  refine wpAnyH_ready (rs := [12]) (by kernel_rfl) (by simp) ?_
  refine AllReadyH.cons (o := { dst := none, op := Op.store 29 (Operand.tmp 4) (Operand.tmp 26), type := 0, pos := "state.go:55", after := #[{ on := 10, ground := Ground.data }, { on := 9, ground := Ground.chain }, { on := 0, ground := Ground.phase }, { on := 1, ground := Ground.phase }, { on := 2, ground := Ground.phase }, { on := 3, ground := Ground.phase }, { on := 4, ground := Ground.phase }, { on := 5, ground := Ground.phase }, { on := 6, ground := Ground.phase }, { on := 7, ground := Ground.phase }, { on := 8, ground := Ground.phase }, { on := 9, ground := Ground.phase }, { on := 10, ground := Ground.phase }, { on := 11, ground := Ground.phase }], guard := none }) rfl (fun K' hK' => ?_) AllReadyH.nil
  rw [if_pos (by kernel_rfl)]
  refine wp_store_mid 29 (.tmp 4) (.tmp 26) rfl b2 0 #[.int .i64 er, .string vl] rfl rfl (there_block (C := [.int .i64 0, .string ⟨#[]⟩]) H3.out.hd3 0 2 (by simp)) Tryd.is29 (by simp [Value.oneCell']) ?_
  have H4 : Hid (Fr w (w3.setCells b2 0 #[.int .i64 er, .string vl].toList) (stT s t g r3 c3 (S.next q) :: blkT b1 (rqC q).toArray 37 :: blkT b2 #[.int .i64 er, .string vl] 29 :: os)) := Lib.hid (H3.out.third.store33 er vl).back3
  clear H3
  refine hK'.out _ _ (⟨H4.out.hd.cell.2.1, H4.out.hd.cell.2.2, H4.out.hd2⟩) (fun _ => ?_)
  clear hK' K'
  try simp only [Act.put]
  refine wpAnyH_take (i := 13) (oi := { dst := some 5, op := Op.assign (Operand.tmp 27), type := 4, pos := "state.go:55", after := #[{ on := 11, ground := Ground.data }, { on := 12, ground := Ground.chain }, { on := 0, ground := Ground.phase }, { on := 1, ground := Ground.phase }, { on := 2, ground := Ground.phase }, { on := 3, ground := Ground.phase }, { on := 4, ground := Ground.phase }, { on := 5, ground := Ground.phase }, { on := 6, ground := Ground.phase }, { on := 7, ground := Ground.phase }, { on := 8, ground := Ground.phase }, { on := 9, ground := Ground.phase }, { on := 10, ground := Ground.phase }, { on := 11, ground := Ground.phase }, { on := 12, ground := Ground.phase }], guard := none }) (v := .bool z) rfl (by kernel_rfl) (by kernel_rfl) (by kernel_rfl) (fun _ _ _ h => h) (Or.inl ⟨by kernel_rfl, fun W hSW => by go_simp⟩) (⟨H4.out.hd.cell.2.1, H4.out.hd.cell.2.2, H4.out.hd2⟩) ?_
  try simp only [Act.put, List.setIfInBounds_toArray, List.set_cons_zero, List.set_cons_succ]
  refine wpAnyH_done (by kernel_rfl) ?_ _
  have h4 := H4.out.hd3
  have HR := Lib.hid (range_all (C := [.int .i64 er, .string vl]) h4)
  have HZ := Lib.hid H4.out.swap.third
  clear H4 h4
  go_wp2_with fail
  (try simp only [Exit.inBlock, Exit.then]); refine bodyPost_ret (ret_ct (g := b2) rfl rfl rfl HR.out Tryd.underlying29 rfl Tryd.is29) rfl ?_
  rw [HRes.out]
  exact ⟨rfl, r3, c3, HZ.out.pop.pop⟩
/-! ### of no state -/
theorem do_none (q : MRq) (w : World) : Calls Tryd.prog 7 #[.pointer none, .agg (rqC q).toArray] w fun E w' => NoP w 2 E w' := by
  have HZ : Hid (∀ x y, ((w.alloc (.cells (rqC q).toArray 37)).alloc (.cells #[x, y] 29)).heap[w.heap.size + 1]? = some (.cells [x, y].toArray 29 (0, 0)) ∧ Below w.heap.size w ((w.alloc (.cells (rqC q).toArray 37)).alloc (.cells #[x, y] 29))) := Lib.hid fun x y => ⟨two_new w _ [x, y] _, ((Below.refl _ _).alloc (Nat.le_refl _) _).alloc (by simp) _⟩
  go_enter Tryd.func7, Tryd.ntmps7
  go_wp2_with fail
  (try simp only [Exit.inBlock, Exit.then]); refine bodyPost_ret (ret_ct (g := w.heap.size + 1) rfl rfl rfl (range_all (HZ.out _ _).1) Tryd.underlying29 rfl Tryd.is29) rfl ?_
  exact ⟨rfl, (HZ.out _ _).2⟩
theorem count_none (w : World) : Calls Tryd.prog 9 #[.pointer none] w fun E w' => E = .returned (.int .u64 0) ∧ w = w' := by
  go_enter Tryd.func9, Tryd.ntmps9
  go_wp2_with fail
  go_ret
  exact ⟨rfl, rfl⟩
theorem items_none (w : World) : Calls Tryd.prog 12 #[.pointer none] w fun E w' => E = .returned (.slice none 0 0) ∧ w = w' := by
  go_enter Tryd.func12, Tryd.ntmps12
  go_wp2_with fail
  go_ret
  exact ⟨rfl, rfl⟩
theorem bytes_none (w : World) : Calls Tryd.prog 8 #[.pointer none] w fun E w' => E = .returned (.slice none 0 0) ∧ w = w' := by
  go_enter Tryd.func8, Tryd.ntmps8
  go_wp2_with fail
  go_ret
  exact ⟨rfl, rfl⟩
theorem last_none (c : Int) (w : World) : Calls Tryd.prog 13 #[.pointer none, .int .i64 c] w fun E w' => E = .returned (.agg (lsC zL).toArray) ∧ Below w.heap.size w w' := by
  have HZ := Lib.hid (last_fresh w)
  go_enter Tryd.func13, Tryd.ntmps13
  go_wp2_with fail
  (try simp only [Exit.inBlock, Exit.then]); refine bodyPost_ret (ret_range (g := w.heap.size) rfl rfl (range_all (HZ.out _ _ _).1) Tryd.underlying48 rfl Tryd.is48) rfl ?_
  exact ⟨rfl, (HZ.out _ _ _).2⟩
/-! ### what a state tells -/
theorem count_any {w : World} {s t g : Nat} {r : Option Nat} {c : Nat} {S : MSt} (hA : StAt w s t g r c S) : Calls Tryd.prog 9 #[.pointer (some ⟨s, 0, none⟩)] w fun E w' => E = .returned (.int .u64 (S.n : Int)) ∧ w = w' := by
  have c0 := hA.cell.1
  clear hA
  go_enter Tryd.func9, Tryd.ntmps9
  go_wp2_with fail
  go_ret
  exact ⟨rfl, rfl⟩
theorem items_any {w : World} {s t g : Nat} {r : Option Nat} {c : Nat} {S : MSt} (hA : StAt w s t g r c S) : Calls Tryd.prog 12 #[.pointer (some ⟨s, 0, none⟩)] w fun E w' => ListP w S.xs E w' := by
  have c0 := hA.cell.2.2
  have HL := Lib.hid (list_any hA.sys.led (Nat.le_trans hA.sys.len (by omega)))
  clear hA
  go_enter Tryd.func12, Tryd.ntmps12
  go_wp2_with (go_at_call 25; refine HL.out.mono ?_)
  rintro E w1 ⟨r1, c1, rfl, h1, h2, h3⟩
  go_wp2_with fail
  go_ret
  exact ⟨r1, c1, rfl, h1, h2, h3⟩
theorem slast_any {w : World} {s t g : Nat} {r : Option Nat} {c : Nat} {S : MSt} (hA : StAt w s t g r c S) (k : Int) : Calls Tryd.prog 13 #[.pointer (some ⟨s, 0, none⟩), .int .i64 k] w fun E w' => E = .returned (.agg (lsC (tLast S.T k)).toArray) ∧ Below w.heap.size w w' := by
  have hb0 : ∀ C, Below w.heap.size w (w.alloc (.cells C 48)) := fun C => (Below.refl _ _).alloc (Nat.le_refl _) _
  have HA := Lib.hid hA
  have HB := Lib.hid hb0
  have c0 : (w.alloc (.cells #[.int .u64 0, .int .i64 0, .string ⟨#[]⟩] 48)).cell? ⟨s, 1, none⟩ = some (.pointer (some ⟨t, 0, none⟩)) := (hA.below (hb0 _)).cell.2.1
  obtain ⟨p, hp⟩ : ∃ p, p = tLast S.T k := ⟨_, rfl⟩
  have HP := Lib.hid hp
  rw [← hp]
  clear hA hb0 hp
  go_enter Tryd.func13, Tryd.ntmps13
  go_wp2_with (go_at_call 26; refine (tlast_any (HA.out.below (HB.out _)).tbl k).mono ?_)
  rintro E w1 ⟨rfl, hb⟩
  rw [← HP.out]
  have hb1 : w1.heap[w.heap.size]? = some (.cells [.int .u64 0, .int .i64 0, .string ⟨#[]⟩].toArray 48 (0, 0)) := (hb.block _ (by simp)).trans (heap_alloc_new w _)
  have HG := Lib.hid hb1
  have HBB := Lib.hid ((HB.out _).trans (hb.mono (by simp)))
  clear hb hb1
  go_wp2_with (refine wpList_store_all rfl 48 (.tmp 4) (.tmp 13) rfl w.heap.size [.int .u64 0, .int .i64 0, .string ⟨#[]⟩] (lsC p) 48 HG.out rfl rfl rfl Tryd.is48 (by simp [lsC, Value.oneCell']) ?_; intro w2 h2)
  (try simp only [Exit.inBlock, Exit.then]); refine bodyPost_ret (ret_range (g := w.heap.size) (cs := lsC p) rfl rfl (range_all h2.out.1) Tryd.underlying48 rfl Tryd.is48) rfl ?_
  exact ⟨rfl, HBB.out.grown h2.out.2 HBB.out.size (fun k e => by injection e with e; omega)⟩
/-! ### New -/
theorem new_fr {w W : World} {os : List Thing} (H : Fr w W os) : Calls Tryd.prog 6 #[] W fun E W' => ∃ s t g, E = .returned (.pointer (some ⟨s, 0, none⟩)) ∧ Fr w W' (stT s t g none 0 S0 :: os) := by
  have H0 := Lib.hid H
  clear H
  go_enter Tryd.func6, Tryd.ntmps6
  go_wp2_with (go_at_call 14; refine (tnew_any W).mono ?_)
  rintro E w1 ⟨rfl, ht, b1⟩
  have HV := Lib.hid (H0.out.varsW.below b1)
  have HT := Lib.hid ht
  have B1 := Lib.hid b1
  clear ht b1
  go_wp2_with (go_at_call 15; refine (new_any HV.out).mono ?_)
  rintro E w2 ⟨rfl, hs, b2⟩
  have HS := Lib.hid hs
  have B2 := Lib.hid b2
  clear hs b2
  have HZ : Hid (Fr w (w2.alloc (.cells #[.int .u64 0, .pointer (some ⟨W.heap.size, 0, none⟩), .pointer (some ⟨w1.heap.size, 0, none⟩)] 55)) (stT w2.heap.size W.heap.size w1.heap.size none 0 S0 :: os)) := Lib.hid (by
    have hz1 := B1.out.size
    have hz2 := B2.out.size
    have hb3 : Below w2.heap.size w2 (w2.alloc (.cells #[.int .u64 0, .pointer (some ⟨W.heap.size, 0, none⟩), .pointer (some ⟨w1.heap.size, 0, none⟩)] 55)) := (Below.refl _ _).alloc (Nat.le_refl _) _
    refine H0.out.add ((B1.out.trans (B2.out.mono hz1)).trans (hb3.mono (by omega))) ⟨heap_alloc_new w2 _, (HT.out.below B2.out).below hb3, HS.out.below hb3, ?_, by decide⟩ (stT_ok _ _ _ _ _ _) ?_
    · have := H0.out.low
      have := H0.out.size
      omega
    · rintro k (((rfl | e) | rfl) | rfl)
      · omega
      · cases e
      · exact Nat.le_refl _
      · omega)
  clear H0 HV HT B1 HS B2
  go_wp2_with fail
  go_ret
  exact ⟨_, _, _, rfl, HZ.out⟩
open Go.RowKit
set_option maxRecDepth 100000

/-- What is left, and whether it is spoilt. -/
abbrev Rst := List UInt8 × Bool
def takeR (r : Rst) (n : Nat) : List UInt8 × Rst := if r.2 = true ∨ r.1.length < n then ([], (r.1, true)) else (r.1.take n, (r.1.drop n, false))
def numR (r : Rst) (most : Nat) : Nat × Rst := if (takeR r 8).2.2 = true ∨ most < num8 (takeR r 8).1 then (0, ((takeR r 8).2.1, true)) else (num8 (takeR r 8).1, (takeR r 8).2)
def texR (r : Rst) : List UInt8 × Rst := takeR (numR r 18446744073709551615).2 (numR r 18446744073709551615).1
/-- Bytes that lay there at the beginning. -/
structure Bs (w : World) (A : Option Addr) (l : List UInt8) (c : Nat) : Prop where
  rd : Sh.Rd (fun _ => True) w A l.length l
  sl : Sh.Sl A l.length c
def rdrT (k : Nat) (A : Option Addr) (n c : Nat) (z : Bool) : Thing := blkT k #[.slice A n c, .int .i64 (if z then 5 else 0)] 60
/-- A reader. -/
def Rdr (w W : World) (k : Nat) (r : Rst) (os : List Thing) : Prop := ∃ A c, Fr w W (rdrT k A r.1.length c r.2 :: os) ∧ Bs w A r.1 c
theorem bs_nil (w : World) : Bs w none [] 0 := ⟨Sh.Rd.nil _ _ _, ⟨fun _ => ⟨rfl, rfl⟩, Nat.le_refl _, by omega⟩⟩
theorem Rdr.err {w W : World} {k : Nat} {l : List UInt8} {z : Bool} {os : List Thing} (H : Rdr w W k (l, z) os) : W.cell? ⟨k, 1, none⟩ = some (.int .i64 (if z then 5 else 0)) := by
  obtain ⟨A, c, h, _⟩ := H
  exact block_cell (C := [.slice A l.length c, .int .i64 (if z then 5 else 0)]) h.hd 1 _ rfl
theorem need_at {w W : World} {k : Nat} {A : Option Addr} {n c : Nat} {z : Bool} {os : List Thing} (H : Fr w W (rdrT k A n c z :: os)) (ok : Bool) : Calls Tryd.prog 22 #[.pointer (some ⟨k, 0, none⟩), .bool ok] W fun E W' => E = .returned (.tuple #[]) ∧ Fr w W' (rdrT k A n c (z || !ok) :: os) := by
  cases ok with
  | true =>
    have H0 := Lib.hid H
    clear H
    go_enter Tryd.func22, Tryd.ntmps22
    go_wp2_with fail
    go_end0
    exact ⟨rfl, by simpa using H0.out⟩
  | false =>
    have HZ : Hid (Fr w (W.setCell ⟨k, 1, none⟩ (.int .i64 5)) (rdrT k A n c true :: os)) := Lib.hid (Fr.set (C := [.slice A n c, .int .i64 (if z then 5 else 0)]) H 1 (.int .i64 5))
    have c1 : W.cell? ⟨k, 1, none⟩ = some (.int .i64 (if z then 5 else 0)) := block_cell (C := [.slice A n c, .int .i64 (if z then 5 else 0)]) H.hd 1 _ rfl
    have f1 : W.frozen? ⟨k, 1, none⟩ = false := free_block H.hd 1
    clear H
    go_enter Tryd.func22, Tryd.ntmps22
    go_wp2_with fail
    go_end0
    exact ⟨rfl, by simpa using HZ.out⟩
theorem need_fr {w W : World} {k : Nat} {r : Rst} {os : List Thing} (H : Rdr w W k r os) (ok : Bool) : Calls Tryd.prog 22 #[.pointer (some ⟨k, 0, none⟩), .bool ok] W fun E W' => E = .returned (.tuple #[]) ∧ Rdr w W' k (r.1, r.2 || !ok) os := by
  obtain ⟨A, c, h, hb⟩ := H
  exact (need_at h ok).mono fun E W' ⟨he, h'⟩ => ⟨he, A, c, h', hb⟩
theorem Bs.take {w : World} {A : Option Addr} {l : List UInt8} {c : Nat} (h : Bs w A l c) {n : Nat} (hn : n ≤ l.length) : Bs w A (l.take n) c := by
  have hl : (l.take n).length = n := by rw [List.length_take]; omega
  refine ⟨⟨rfl, fun h0 => ?_⟩, fun e => ⟨by have := h.sl.1 e; omega, (h.sl.1 e).2⟩, by have := h.sl.2.1; omega, h.sl.2.2⟩
  obtain ⟨b, o, e, hb, _, hc⟩ := h.rd.2 (by omega)
  refine ⟨b, o, e, hb, trivial, fun j u hj => hc j u ?_⟩
  rw [List.getElem?_take] at hj
  split at hj
  · exact hj
  · cases hj
theorem Bs.drop {w : World} {ad : Addr} {l : List UInt8} {c : Nat} (h : Bs w (some ad) l c) {n : Nat} (hn : n ≤ l.length) : Bs w (some (ad.add n)) (l.drop n) (c - n) := by
  refine ⟨⟨rfl, fun h0 => ?_⟩, by simp, by rw [List.length_drop]; have := h.sl.2.1; omega, by have := h.sl.2.2; omega⟩
  obtain ⟨b, o, e, hb, _, hc⟩ := h.rd.2 (by rw [List.length_drop] at h0; omega)
  injection e with e
  subst e
  refine ⟨b, o + n, by rw [Addr.add_lit], hb, trivial, fun j u hj => ?_⟩
  rw [List.getElem?_drop] at hj
  have := hc (n + j) u hj
  rwa [← Nat.add_assoc] at this
theorem bs_zero (w : World) (ad : Addr) : Bs w (some ad) [] 0 := ⟨Sh.Rd.nil _ _ _, by simp, Nat.le_refl _, by omega⟩
set_option maxHeartbeats 1000000 in
theorem take_fr {w W : World} {k : Nat} {r : Rst} {os : List Thing} (H : Rdr w W k r os) (n : Nat) (hn : n < 18446744073709551616) :
    Calls Tryd.prog 33 #[.pointer (some ⟨k, 0, none⟩), .int .u64 (n : Int)] W fun E W' => ∃ A1 c1, E = .returned (.slice A1 (takeR r n).1.length c1) ∧ Bs w A1 (takeR r n).1 c1 ∧ Rdr w W' k (takeR r n).2 os := by
  obtain ⟨l, z⟩ := r
  obtain ⟨A, c, h, hb⟩ := H
  have HB := Lib.hid hb
  have hc63 := hb.sl.2.2
  have hcl := hb.sl.2.1
  dsimp only at h hb hcl
  have c0 : W.cell? ⟨k, 0, none⟩ = some (.slice A l.length c) := block_cell (C := [.slice A l.length c, .int .i64 (if z then 5 else 0)]) h.hd 0 _ rfl
  have HN : Hid (∀ ok, Calls Tryd.prog 22 #[.pointer (some ⟨k, 0, none⟩), .bool ok] W fun E W' => E = .returned (.tuple #[]) ∧ Fr w W' (rdrT k A l.length c (z || !ok) :: os)) := Lib.hid fun ok => need_at h ok
  obtain ⟨m, hm⟩ : ∃ m, m = l.length := ⟨_, rfl⟩
  have HM := Lib.hid hm
  rw [← hm] at c0 hcl
  have hwl : IntKind.u64.wrap (m : Int) = (m : Int) := by rw [IntKind.wrap_u64]; omega
  clear h hb hm
  by_cases hz : z = true ∨ m < n
  · have HR : Hid (takeR (l, z) n = ([], (l, true))) := Lib.hid (if_pos (by rw [← HM.out]; exact hz))
    rw [HR.out]
    have HO : Hid (∀ ok, ok = decide (n ≤ m) → (z || !ok) = true) := Lib.hid (by rintro ok rfl; rcases hz with h | h <;> simp [h])
    by_cases hnm : n ≤ m
    · have hq : decide ((n : Int) ≤ (m : Int)) = true := decide_eq_true (by omega)
      have HNt := Lib.hid (HN.out true)
      have HO2 := Lib.hid (HO.out true (by simp; omega))
      clear HN hz HO
      go_enter Tryd.func33, Tryd.ntmps33
      go_wp2_with (go_at_call 22
                   refine HNt.out.mono ?_
                   rintro E w1 ⟨rfl, hx⟩
                   have HX : Hid (Rdr w w1 k (l, true) os) := Lib.hid ⟨A, c, by rw [HO2.out] at hx; exact hx, HB.out⟩
                   have k1 := HX.out.err
                   clear hx HNt)
      go_ret
      exact ⟨_, _, rfl, bs_nil w, HX.out⟩
    · have hq : decide ((n : Int) ≤ (m : Int)) = false := decide_eq_false (by omega)
      have HNt := Lib.hid (HN.out false)
      have HO2 := Lib.hid (HO.out false (by simp; omega))
      clear HN hz HO
      go_enter Tryd.func33, Tryd.ntmps33
      go_wp2_with (go_at_call 22
                   refine HNt.out.mono ?_
                   rintro E w1 ⟨rfl, hx⟩
                   have HX : Hid (Rdr w w1 k (l, true) os) := Lib.hid ⟨A, c, by rw [HO2.out] at hx; exact hx, HB.out⟩
                   have k1 := HX.out.err
                   clear hx HNt)
      go_ret
      exact ⟨_, _, rfl, bs_nil w, HX.out⟩
  · obtain ⟨hz0, hnm⟩ : z = false ∧ n ≤ m := ⟨by cases z <;> simp_all, by omega⟩
    subst hz0
    have HR : Hid (takeR (l, false) n = (l.take n, (l.drop n, false))) := Lib.hid (if_neg (by rw [← HM.out]; simp; omega))
    have HLN : Hid ((l.take n).length = n) := Lib.hid (by rw [List.length_take, ← HM.out]; omega)
    rw [HR.out]
    dsimp only
    rw [HLN.out]
    have hq : decide ((n : Int) ≤ (m : Int)) = true := decide_eq_true (by omega)
    have HNt := Lib.hid (HN.out true)
    have hnc : (n : Int) ≤ (c : Int) := by omega
    have hnm' : (n : Int) ≤ (m : Int) := by omega
    have hmc' : (m : Int) ≤ (c : Int) := by omega
    clear HN hz
    cases A with
    | none =>
      have HS : Hid (∀ W1, Fr w W1 (rdrT k none l.length c false :: os) → ∀ A' n' c', Fr w (W1.setCell ⟨k, 0, none⟩ (.slice A' n' c')) (rdrT k A' n' c' false :: os)) := Lib.hid fun W1 h A' n' c' => Fr.set (C := [.slice none l.length c, .int .i64 0]) h 0 (.slice A' n' c')
      have hm0 : m = 0 ∧ c = 0 := by have := HB.out.sl.1 rfl; rw [HM.out]; exact this
      obtain ⟨rfl, rfl⟩ := hm0
      obtain rfl : n = 0 := by omega

      go_enter Tryd.func33, Tryd.ntmps33
      go_wp2_with (go_at_call 22
                   refine HNt.out.mono ?_
                   rintro E w1 ⟨rfl, hx⟩
                   have HX : Hid (Fr w w1 (rdrT k none l.length 0 false :: os)) := Lib.hid hx
                   have k1 : w1.cell? ⟨k, 1, none⟩ = some (.int .i64 0) := block_cell (C := [.slice none l.length 0, .int .i64 0]) hx.hd 1 _ rfl
                   have k0 : w1.cell? ⟨k, 0, none⟩ = some (.slice none 0 0) := by { have h0 := block_cell (C := [.slice none l.length 0, .int .i64 0]) hx.hd 0 _ rfl; rw [← HM.out] at h0; exact h0 }
                   have f0 : w1.frozen? ⟨k, 0, none⟩ = false := free_block hx.hd 0
                   clear hx HNt)
      go_ret
      refine ⟨none, 0, rfl, ?_, none, 0, ?_, ?_⟩
      · rw [List.take_zero]; exact bs_nil w
      · have := HS.out _ HX.out none 0 0
        rw [show (l.drop 0, false).1.length = 0 from by rw [List.drop_zero]; exact HM.out.symm]
        exact this
      · exact HB.out
    | some ad =>
      have HS : Hid (∀ W1, Fr w W1 (rdrT k (some ad) l.length c false :: os) → ∀ A' n' c', Fr w (W1.setCell ⟨k, 0, none⟩ (.slice A' n' c')) (rdrT k A' n' c' false :: os)) := Lib.hid fun W1 h A' n' c' => Fr.set (C := [.slice (some ad) l.length c, .int .i64 0]) h 0 (.slice A' n' c')
      have HDL : Hid ((l.drop n).length = m - n) := Lib.hid (by rw [List.length_drop, ← HM.out])
      by_cases hcn : c = n
      · subst hcn
        obtain rfl : m = c := by omega

        go_enter Tryd.func33, Tryd.ntmps33
        go_wp2_with (go_at_call 22
                     refine HNt.out.mono ?_
                     rintro E w1 ⟨rfl, hx⟩
                     have HX : Hid (Fr w w1 (rdrT k (some ad) l.length m false :: os)) := Lib.hid hx
                     have k1 : w1.cell? ⟨k, 1, none⟩ = some (.int .i64 0) := block_cell (C := [.slice (some ad) l.length m, .int .i64 0]) hx.hd 1 _ rfl
                     have k0 : w1.cell? ⟨k, 0, none⟩ = some (.slice (some ad) m m) := by { have h0 := block_cell (C := [.slice (some ad) l.length m, .int .i64 0]) hx.hd 0 _ rfl; rw [← HM.out] at h0; exact h0 }
                     have f0 : w1.frozen? ⟨k, 0, none⟩ = false := free_block hx.hd 0
                     clear hx HNt)
        go_ret
        refine ⟨some ad, m, rfl, HB.out.take (by rw [← HM.out]; omega), some ad, 0, ?_, ?_⟩
        · rw [show (l.drop m, false).1.length = 0 from by rw [HDL.out]; omega]
          exact HS.out _ HX.out _ _ _
        · rw [show (l.drop m, false).1 = [] from List.eq_nil_of_length_eq_zero (by rw [HDL.out]; omega)]
          exact bs_zero w ad
      · have hlt : n < c := by omega

        go_enter Tryd.func33, Tryd.ntmps33
        go_wp2_with (go_at_call 22
                     refine HNt.out.mono ?_
                     rintro E w1 ⟨rfl, hx⟩
                     have HX : Hid (Fr w w1 (rdrT k (some ad) l.length c false :: os)) := Lib.hid hx
                     have k1 : w1.cell? ⟨k, 1, none⟩ = some (.int .i64 0) := block_cell (C := [.slice (some ad) l.length c, .int .i64 0]) hx.hd 1 _ rfl
                     have k0 : w1.cell? ⟨k, 0, none⟩ = some (.slice (some ad) m c) := by { have h0 := block_cell (C := [.slice (some ad) l.length c, .int .i64 0]) hx.hd 0 _ rfl; rw [← HM.out] at h0; exact h0 }
                     have f0 : w1.frozen? ⟨k, 0, none⟩ = false := free_block hx.hd 0
                     clear hx HNt)
        go_ret
        refine ⟨some ad, c, rfl, HB.out.take (by rw [← HM.out]; omega), some (ad.add n), c - n, ?_, HB.out.drop (by rw [← HM.out]; omega)⟩
        rw [show (l.drop n, false).1.length = m - n from HDL.out]
        exact HS.out _ HX.out _ _ _
open Go.RowKit
set_option maxRecDepth 100000

theorem take8_len (r : Rst) : (takeR r 8).1.length = 8 ∨ (takeR r 8).1 = [] := by
  unfold takeR
  split
  · exact .inr rfl
  · exact .inl (by simp; omega)
theorem num8_take {b : List UInt8} {j : Nat} {x : UInt8} (h : b[j]? = some x) : num8 (b.take (j + 1)) = 256 * num8 (b.take j) + x.toNat := by
  rw [List.take_add_one, h]
  simp [num8]
theorem fold_lt : ∀ (l : List UInt8) (a : Nat), l.foldl (fun n x => 256 * n + x.toNat) a < (a + 1) * 256 ^ l.length
  | [], a => by simp
  | x :: l, a => by
    have h := fold_lt l (256 * a + x.toNat)
    have hx := x.toNat_lt
    rw [List.foldl_cons, List.length_cons, Nat.pow_succ]
    refine Nat.lt_of_lt_of_le h ?_
    calc (256 * a + x.toNat + 1) * 256 ^ l.length ≤ (256 * (a + 1)) * 256 ^ l.length := Nat.mul_le_mul_right _ (by omega)
      _ = (a + 1) * (256 ^ l.length * 256) := by rw [Nat.mul_comm 256 (a + 1), Nat.mul_assoc, Nat.mul_comm 256]
theorem num8_pow (l : List UInt8) : num8 l < 256 ^ l.length := by
  have := fold_lt l 0
  simpa [num8] using this
theorem or_step {N x : Nat} (hN : N < 72057594037927936) (hx : x < 256) : bits .or .u64 (IntKind.u64.wrap ((N : Int) * 256)) (IntKind.u64.wrap (x : Int)) = ((256 * N + x : Nat) : Int) := by
  have e1 : IntKind.u64.wrap ((N : Int) * 256) = ((256 * N : Nat) : Int) := by rw [IntKind.wrap_u64]; omega
  have e2 : IntKind.u64.wrap (x : Int) = ((x : Nat) : Int) := by rw [IntKind.wrap_u64]; omega
  rw [e1, e2, bits_or_u64_nat _ _ (by omega) (by omega)]
  have := Nat.two_pow_add_eq_or_of_lt (i := 8) (b := x) (by omega) N
  rw [show 2 ^ 8 * N = 256 * N from rfl] at this
  rw [this]
theorem Rdr.bel {w W : World} {k : Nat} {r : Rst} {os : List Thing} (H : Rdr w W k r os) : Below w.heap.size w W := let ⟨_, _, h, _⟩ := H; h.bel
set_option maxHeartbeats 1000000 in
theorem num_fr {w W : World} {k : Nat} {r : Rst} {os : List Thing} (H : Rdr w W k r os) (most : Nat) :
    Calls Tryd.prog 19 #[.pointer (some ⟨k, 0, none⟩), .int .u64 (most : Int)] W fun E W' => E = .returned (.int .u64 ((numR r most).1 : Int)) ∧ Rdr w W' k (numR r most).2 os := by
  have HT := Lib.hid (take_fr H 8 (by decide))
  obtain ⟨b, hb⟩ : ∃ b, b = (takeR r 8).1 := ⟨_, rfl⟩
  obtain ⟨r1, hr1⟩ : ∃ r1, r1 = (takeR r 8).2 := ⟨_, rfl⟩
  have HB8 : Hid (b.length = 8 ∨ b = []) := Lib.hid (by rw [hb]; exact take8_len r)
  have HE : Hid (numR r most = if r1.2 = true ∨ most < num8 b then (0, (r1.1, true)) else (num8 b, r1)) := Lib.hid (by rw [numR, hb, hr1])
  rw [← hb, ← hr1] at HT
  have hl8 : b.length ≤ 8 := by rcases HB8.out with h | h <;> simp [h]
  obtain ⟨n, hn⟩ : ∃ n, n = b.length := ⟨_, rfl⟩
  have HN := Lib.hid hn
  rw [← hn] at hl8 HT
  clear hb hr1 hn H
  go_enter Tryd.func19, Tryd.ntmps19
  go_wp2_with (go_at_call 33; refine HT.out.mono ?_)
  rintro E w1 ⟨A1, c1, rfl, h1, h2⟩
  have H1 := Lib.hid h1
  have H2 := Lib.hid h2
  clear h1 h2 HT
  go_wp2_with fail
  go_loopw [5, 11] (fun v5 v11 wr => ∃ j : Nat, j ≤ n ∧ v5 = .int .u64 (num8 (b.take j) : Int) ∧ v11 = .int .i64 (j : Int) ∧ wr = w1) (fun _ v11 _ => n - (intOf v11).toNat)
  case atStart => exact ⟨0, by omega, rfl, rfl, rfl⟩
  case round =>
    obtain ⟨j, hj, rfl, rfl, rfl⟩ := hrel
    by_cases hjj : j < n
    · obtain ⟨x, hx⟩ : ∃ x, b[j]? = some x := ⟨_, List.getElem?_eq_getElem (by rw [← HN.out]; exact hjj)⟩
      obtain ⟨bb, o, rfl, hlt, _, hc⟩ := H1.out.rd.2 (by rw [← HN.out]; omega)
      have cj : wr.cell? ⟨bb, o + j, none⟩ = some (.int .u8 (x.toNat : Int)) := by
        obtain ⟨A, c, h, _⟩ := H2.out
        exact (h.bel.cell (p := ⟨bb, o + j, none⟩) hlt).trans (hc j x hx)
      have hjj' : (j : Int) < (n : Int) := by omega
      have hor : bits .or .u64 (IntKind.u64.wrap ((num8 (b.take j) : Int) * 256)) (IntKind.u64.wrap (x.toNat : Int)) = ((num8 (b.take (j + 1)) : Nat) : Int) := by
        rw [num8_take hx]
        refine or_step ?_ x.toNat_lt
        refine Nat.lt_of_lt_of_le (num8_pow _) ?_
        rw [List.length_take]
        exact Nat.pow_le_pow_right (by decide) (show min j b.length ≤ 7 by omega)
      have HOR := Lib.hid hor
      obtain ⟨N, hN⟩ : ∃ N, N = num8 (b.take j) := ⟨_, rfl⟩
      obtain ⟨N', hN'⟩ : ∃ N', N' = num8 (b.take (j + 1)) := ⟨_, rfl⟩
      have HN' := Lib.hid hN'
      rw [← hN, ← hN'] at hor
      rw [← hN]
      clear hN hN' HOR hc hx
      go_wp2_with fail
      go_roundw
      case measure => simp [intOf] <;> omega
      case rel => exact ⟨j + 1, by omega, by rw [HN'.out], by go_num, trivial⟩
    · obtain rfl : j = n := by omega
      have HF : Hid (b.take j = b) := Lib.hid (by rw [HN.out, List.take_length])
      rw [HF.out]
      obtain ⟨N, hN⟩ : ∃ N, N = num8 b := ⟨_, rfl⟩
      rw [← hN] at HE ⊢
      clear hN
      obtain ⟨rest, z1⟩ := r1
      by_cases hmn : most < N
      · have hq : decide ((N : Int) ≤ (most : Int)) = false := decide_eq_false (by omega)
        have hq' : decide (N ≤ most) = false := decide_eq_false (by omega)
        have HNt : Hid (Calls Tryd.prog 22 #[.pointer (some ⟨k, 0, none⟩), .bool false] wr fun E W' => E = .returned (.tuple #[]) ∧ Rdr w W' k (rest, true) os) := Lib.hid (by have := need_fr H2.out false; simpa using this)
        have HV : Hid (numR r most = (0, (rest, true))) := Lib.hid (HE.out.trans (if_pos (.inr hmn)))
        clear H2 HE
        go_wp2_with (go_at_call 22
                     refine HNt.out.mono ?_
                     rintro E w3 ⟨rfl, hx⟩
                     have HX := Lib.hid hx
                     have k1 := HX.out.err
                     clear hx HNt)
        go_ret
        rw [HV.out]
        exact ⟨rfl, HX.out⟩
      · have hnm : ¬ ((most : Int) < (N : Int)) := by omega
        cases z1 with
        | true =>
        have hq : decide ((N : Int) ≤ (most : Int)) = true := decide_eq_true (by omega)
        have hq' : decide (N ≤ most) = true := decide_eq_true (by omega)
        have HNt : Hid (Calls Tryd.prog 22 #[.pointer (some ⟨k, 0, none⟩), .bool true] wr fun E W' => E = .returned (.tuple #[]) ∧ Rdr w W' k (rest, true) os) := Lib.hid (by have := need_fr H2.out true; simpa using this)
        have HV : Hid (numR r most = (0, (rest, true))) := Lib.hid (HE.out.trans (if_pos (.inl rfl)))
        clear H2 HE
        go_wp2_with (go_at_call 22
                     refine HNt.out.mono ?_
                     rintro E w3 ⟨rfl, hx⟩
                     have HX := Lib.hid hx
                     have k1 := HX.out.err
                     clear hx HNt)
        go_ret
        rw [HV.out]
        exact ⟨rfl, HX.out⟩
        | false =>
        have hq : decide ((N : Int) ≤ (most : Int)) = true := decide_eq_true (by omega)
        have hq' : decide (N ≤ most) = true := decide_eq_true (by omega)
        have HNt : Hid (Calls Tryd.prog 22 #[.pointer (some ⟨k, 0, none⟩), .bool true] wr fun E W' => E = .returned (.tuple #[]) ∧ Rdr w W' k (rest, false) os) := Lib.hid (by have := need_fr H2.out true; simpa using this)
        have HV : Hid (numR r most = (N, (rest, false))) := Lib.hid (HE.out.trans (if_neg (by simpa using hmn)))
        clear H2 HE
        go_wp2_with (go_at_call 22
                     refine HNt.out.mono ?_
                     rintro E w3 ⟨rfl, hx⟩
                     have HX := Lib.hid hx
                     have k1 := HX.out.err
                     clear hx HNt)
        go_ret
        rw [HV.out]
        exact ⟨rfl, HX.out⟩
theorem numR_le (r : Rst) (most : Nat) : (numR r most).1 ≤ most := by
  unfold numR
  split
  · exact Nat.zero_le _
  · next h => exact Nat.le_of_not_lt fun h' => h (.inr h')
theorem text_fr {w W : World} {k : Nat} {r : Rst} {os : List Thing} (H : Rdr w W k r os) :
    Calls Tryd.prog 36 #[.pointer (some ⟨k, 0, none⟩)] W fun E W' => E = .returned (.string (Sh.str (texR r).1)) ∧ Rdr w W' k (texR r).2 os := by
  have HN := Lib.hid (num_fr H 18446744073709551615)
  have HM := Lib.hid (numR_le r 18446744073709551615)
  have HE : Hid (texR r = takeR (numR r 18446744073709551615).2 (numR r 18446744073709551615).1) := Lib.hid rfl
  obtain ⟨n, hn⟩ : ∃ n, n = (numR r 18446744073709551615).1 := ⟨_, rfl⟩
  obtain ⟨r1, hr1⟩ : ∃ r1, r1 = (numR r 18446744073709551615).2 := ⟨_, rfl⟩
  rw [← hn] at HM
  rw [← hn, ← hr1] at HN HE
  clear hn hr1 H
  go_enter Tryd.func36, Tryd.ntmps36
  go_wp2_with (go_at_call 19
               refine HN.out.mono ?_
               rintro E w1 ⟨rfl, hx⟩
               have HT := Lib.hid (take_fr hx n (by have := HM.out; omega))
               clear hx HN)
  refine HT.out.mono ?_
  rintro E w2 ⟨A1, c1, rfl, h1, h2⟩
  have H2 := Lib.hid h2
  have hcv := Sh.run_string (w := w2) (c := c1) (h1.rd.below h2.bel fun b hb _ => hb)
  clear h1 h2 HT
  go_wp2_with fail
  go_ret
  rw [HE.out]
  exact ⟨rfl, H2.out⟩
open Go.RowKit
set_option maxRecDepth 100000

def lastR (r : Rst) : Lst × Rst :=
  (((numR r 18446744073709551615).1, (((numR (numR r 18446744073709551615).2 2147483647).1 : Int), Sh.str (texR (numR (numR r 18446744073709551615).2 2147483647).2).1)), (texR (numR (numR r 18446744073709551615).2 2147483647).2).2)
def lastsR : Nat → Rst → List Lst × Rst
  | 0, r => ([], r)
  | n + 1, r => ((lastsR n r).1 ++ [(lastR (lastsR n r).2).1], (lastR (lastsR n r).2).2)
theorem lastsR_length : ∀ (n : Nat) (r : Rst), (lastsR n r).1.length = n
  | 0, _ => rfl
  | n + 1, r => by simp [lastsR, lastsR_length n r]
theorem make91 (w : World) : (Instr.makeSlice 64 (.int .i64 8) (.int .i64 8)).run Tryd.prog w = .ok (.slice (some ⟨w.heap.size, 0, none⟩) 8 8) (w.alloc (.cells (tbC zT).toArray 48)) := by
  obtain ⟨i0, hi0, hz0, hzs, hzb⟩ := info_parts Tryd.info48
  have h := run_make (P := Tryd.prog) w 64 48 i0 _ Tryd.underlying64 hi0 hz0 .i64 .i64 8 8 (by decide) (by decide) (by rw [hzb]; decide) (by decide)
  rw [hzs] at h
  rw [show madeCells (Value.agg #[.int .u64 0, .int .i64 0, .string ByteArray.empty]).cells ((8 : Int).toNat * 3) = (tbC zT).toArray from by kernel_rfl] at h
  exact h
section
variable {w W : World} {k : Nat} {r : Rst} {os : List Thing} {b : Nat} {C : List Value} {ty : TypeId}
theorem Rdr.get (H : Rdr w W k r (blkT b C.toArray ty :: os)) : W.heap[b]? = some (.cells C.toArray ty (0, 0)) := let ⟨_, _, h, _⟩ := H; h.hd2
theorem Rdr.cell (H : Rdr w W k r (blkT b C.toArray ty :: os)) {i : Nat} (hi : i < C.length) : ∃ v, W.cell? ⟨b, i, none⟩ = some v := ⟨_, block_cell H.get i _ (List.getElem?_eq_getElem hi)⟩
theorem Rdr.set (H : Rdr w W k r (blkT b C.toArray ty :: os)) (i : Nat) (v : Value) : Rdr w (W.setCell ⟨b, i, none⟩ v) k r (blkT b (C.set i v).toArray ty :: os) := by
  obtain ⟨A, c, h, hb⟩ := H
  exact ⟨A, c, (h.swap.set i v).swap, hb⟩
theorem Rdr.box (H : Rdr w W k r os) (C : Array Value) (ty : TypeId) : Rdr w (W.alloc (.cells C ty)) k r (blkT W.heap.size C ty :: os) := by
  obtain ⟨A, c, h, hb⟩ := H
  exact ⟨A, c, (h.box C ty).swap, hb⟩
end
/-- The row while it is read. -/
def lsX (T : List Lst) (j : Nat) : List Lst := T ++ List.replicate (8 - j) zL
theorem lsX_next {T : List Lst} {j : Nat} (hT : T.length = j) (hj : j < 8) (y : Lst) : (lsX T j).set j y = lsX (T ++ [y]) (j + 1) := by
  unfold lsX
  rw [List.set_append_right _ _ (by omega), hT, Nat.sub_self, show 8 - j = (8 - (j + 1)) + 1 by omega, List.replicate_succ, List.set_cons_zero]
  simp
theorem lsX_length {T : List Lst} {j : Nat} (hT : T.length = j) (hj : j ≤ 8) : (lsX T j).length = 8 := by simp [lsX, hT]; omega
set_option maxHeartbeats 1000000 in
theorem lasts_fr {w W : World} {k : Nat} {r : Rst} {os : List Thing} (H : Rdr w W k r os) :
    Calls Tryd.prog 21 #[.pointer (some ⟨k, 0, none⟩)] W fun E W' => ∃ b, E = .returned (.slice (some ⟨b, 0, none⟩) 8 8) ∧ Rdr w W' k (lastsR 8 r).2 (blkT b (tbC (lastsR 8 r).1).toArray 48 :: os) := by
  have hmk := make91 W
  have H0 : Hid (Rdr w (W.alloc (.cells (tbC zT).toArray 48)) k (lastsR 0 r).2 (blkT W.heap.size (tbC (lsX (lastsR 0 r).1 0)).toArray 48 :: os)) := Lib.hid (H.box _ _)
  clear H
  go_enter Tryd.func21, Tryd.ntmps21
  go_wp2_with fail
  go_loopw [8] (fun v wr => ∃ j : Nat, j ≤ 8 ∧ v = .int .i64 (j : Int) ∧ Hid (Rdr w wr k (lastsR j r).2 (blkT W.heap.size (tbC (lsX (lastsR j r).1 j)).toArray 48 :: os))) (fun v _ => 8 - (intOf v).toNat)
  case atStart => exact ⟨0, by omega, rfl, H0⟩
  case round =>
    clear H0
    obtain ⟨j, hj, rfl, D⟩ := hrel
    by_cases hjj : j < 8
    · have hjj' : (j : Int) < 8 := by omega
      obtain ⟨r1, hr1⟩ : ∃ r1, r1 = (lastsR j r).2 := ⟨_, rfl⟩
      have HR1 := Lib.hid hr1
      have hX := lsX_length (lastsR_length j r) hj
      have HXX := Lib.hid hX
      rw [← hr1] at D
      have HN := Lib.hid (num_fr D.out 18446744073709551615)
      have HL24 : Hid ((tbC (lsX (lastsR j r).1 j)).length = 24) := Lib.hid (by rw [tbC_length, hX])
      have hw2 : IntKind.i64.wrap ((numR (numR r1 18446744073709551615).2 2147483647).1 : Int) = ((numR (numR r1 18446744073709551615).2 2147483647).1 : Int) := by
        have := numR_le (numR r1 18446744073709551615).2 2147483647
        rw [IntKind.wrap_i64]; omega
      have HLS : Hid ((lastsR (j + 1) r).2 = (texR (numR (numR r1 18446744073709551615).2 2147483647).2).2 ∧ lsX (lastsR (j + 1) r).1 (j + 1) = (lsX (lastsR j r).1 j).set j ((numR r1 18446744073709551615).1, (((numR (numR r1 18446744073709551615).2 2147483647).1 : Int), Sh.str (texR (numR (numR r1 18446744073709551615).2 2147483647).2).1))) := Lib.hid ⟨by rw [hr1]; rfl, by rw [lsX_next (lastsR_length j r) hjj, hr1]; rfl⟩
      clear D hr1 hX
      obtain ⟨x1, hx1⟩ : ∃ x, x = (numR r1 18446744073709551615).1 := ⟨_, rfl⟩
      obtain ⟨r2, hr2⟩ : ∃ x, x = (numR r1 18446744073709551615).2 := ⟨_, rfl⟩
      rw [← hx1, ← hr2] at HN HLS
      rw [← hr2] at hw2
      clear hx1 hr2
      obtain ⟨x2, hx2⟩ : ∃ x, x = (numR r2 2147483647).1 := ⟨_, rfl⟩
      obtain ⟨r3, hr3⟩ : ∃ x, x = (numR r2 2147483647).2 := ⟨_, rfl⟩
      have HN2 : Hid (∀ W1 os1, Rdr w W1 k r2 os1 → Calls Tryd.prog 19 #[.pointer (some ⟨k, 0, none⟩), .int .u64 2147483647] W1 fun E W' => E = .returned (.int .u64 (x2 : Int)) ∧ Rdr w W' k r3 os1) := Lib.hid fun W1 os1 h => by rw [hx2, hr3]; exact num_fr h 2147483647
      rw [← hx2, ← hr3] at HLS
      rw [← hx2] at hw2
      clear hx2 hr3
      obtain ⟨x3, hx3⟩ : ∃ x, x = Sh.str (texR r3).1 := ⟨_, rfl⟩
      obtain ⟨r4, hr4⟩ : ∃ x, x = (texR r3).2 := ⟨_, rfl⟩
      have HN3 : Hid (∀ W1 os1, Rdr w W1 k r3 os1 → Calls Tryd.prog 36 #[.pointer (some ⟨k, 0, none⟩)] W1 fun E W' => E = .returned (.string x3) ∧ Rdr w W' k r4 os1) := Lib.hid fun W1 os1 h => by rw [hx3, hr4]; exact text_fr h
      rw [← hx3, ← hr4] at HLS
      clear hx3 hr4
      go_wp2_with (first
        | (go_at_call 19
           refine HN.out.mono ?_
           rintro E w1 ⟨rfl, h1⟩
           have H1 := Lib.hid (h1.set (j * 3) (.int .u64 (x1 : Int)))
           have f1 := free_block h1.get (j * 3)
           obtain ⟨v1, c1⟩ := h1.cell (i := j * 3) (by rw [HL24.out]; omega)
           clear h1 HN)
        | (go_at_call 19
           refine (HN2.out _ _ H1.out).mono ?_
           rintro E w2 ⟨rfl, h2⟩
           have H2 := Lib.hid (h2.set (j * 3 + 1) (.int .i64 (x2 : Int)))
           have f2 := free_block h2.get (j * 3 + 1)
           obtain ⟨v2, c2⟩ := h2.cell (i := j * 3 + 1) (by rw [List.length_set, HL24.out]; omega)
           clear h2 HN2 H1)
        | (go_at_call 36
           refine (HN3.out _ _ H2.out).mono ?_
           rintro E w3 ⟨rfl, h3⟩
           have H3 := Lib.hid (h3.set (j * 3 + 2) (.string x3))
           have f3 := free_block h3.get (j * 3 + 2)
           obtain ⟨v3, c3⟩ := h3.cell (i := j * 3 + 2) (by rw [List.length_set, List.length_set, HL24.out]; omega)
           clear h3 HN3 H2))
      have D' : Hid (Rdr w (w3.setCell ⟨W.heap.size, j * 3 + 2, none⟩ (.string x3)) k (lastsR (j + 1) r).2 (blkT W.heap.size (tbC (lsX (lastsR (j + 1) r).1 (j + 1))).toArray 48 :: os)) := Lib.hid (by
        rw [HLS.out.1, HLS.out.2, ← tbC_set (by rw [HXX.out]; exact hjj)]
        exact H3.out)
      clear H3
      go_roundw
      case measure => simp [intOf] <;> omega
      case rel => exact ⟨j + 1, by omega, by go_num, D'⟩
    · obtain rfl : j = 8 := by omega
      have HX8 : Hid (lsX (lastsR 8 r).1 8 = (lastsR 8 r).1) := Lib.hid (by simp [lsX])
      rw [HX8.out] at D
      go_wp2_with fail
      go_ret
      exact ⟨_, rfl, D.out⟩
open Go.RowKit
set_option maxRecDepth 100000

def itemR (r : Rst) : It × Rst := ((Sh.str (texR r).1, Sh.str (texR (texR r).2).1), (texR (texR r).2).2)
def itemsR : Nat → Rst → List It × Rst
  | 0, r => ([], r)
  | n + 1, r => ((itemsR n r).1 ++ [(itemR (itemsR n r).2).1], (itemR (itemsR n r).2).2)
theorem itemsR_length : ∀ (n : Nat) (r : Rst), (itemsR n r).1.length = n
  | 0, _ => rfl
  | n + 1, r => by simp [itemsR, itemsR_length n r]
theorem own_slA (r : Option Nat) (n c : Nat) : Value.ownBlock (.slice (slA r) n c) = r := by
  cases r <;> rfl
theorem Rw.owned {W : World} {r : Option Nat} {c : Nat} {xs : List It} (h : Rw W r c xs) : W.ownsRow 0 81 2 (.slice (slA r) xs.length c) xs.length (itC xs) := by
  cases r with
  | none =>
    obtain ⟨rfl, rfl⟩ := h
    exact World.ownsRow_nil _ _ _ _
  | some b =>
    obtain ⟨h1, h2, R, hb, hl⟩ := h
    refine ⟨itC_length xs, .inr ⟨b, c, (itC xs ++ R).toArray, rfl, Nat.zero_le _, hb, h1, by unfold maxLen; omega, ?_, ?_⟩⟩
    · simp [itC_length]; omega
    · rw [← itC_length xs]; simp
theorem Rdr.app {w W W' : World} {k : Nat} {r : Rst} {os : List Thing} {r1 : Option Nat} {c1 : Nat} {xs : List It} {p : It} {v : Value} (H : Rdr w W k r (rwT r1 c1 xs :: os)) (ho : W'.ownsRow 0 81 2 v (xs.length + 1) (itC xs ++ pC p)) (hg : W.grownBy W' (Value.ownBlock (.slice (slA r1) xs.length c1)))
    (hat : v.ownBlock = Value.ownBlock (.slice (slA r1) xs.length c1) ∨ v.ownBlock = some W.heap.size) : ∃ r2 c2, v = .slice (slA r2) (xs.length + 1) c2 ∧ Rdr w W' k r (rwT r2 c2 (xs ++ [p]) :: os) := by
  have hl : (xs ++ [p]).length = xs.length + 1 := by simp
  have hi : itC (xs ++ [p]) = itC xs ++ pC p := by simp [itC, pC]
  rw [← hl, ← hi] at ho
  obtain ⟨r2, c2, rfl, hr, _⟩ := rw_of_own ho
  rw [own_slA] at hat hg
  rw [own_slA] at hat
  obtain ⟨A, c, h, hb⟩ := H
  refine ⟨r2, c2, by rw [hl], A, c, (h.swap.turn (o' := rwT r2 c2 (xs ++ [p])) ⟨?_, ?_⟩ hr (rwT_ok _ _ _)).swap, hb⟩
  · exact (Turns.refl _ W).grown hg fun g e => .inl e
  · intro k' e
    rcases hat with e' | e'
    · exact .inl (e'.symm.trans e)
    · have e : r2 = some k' := e
      rw [e'] at e; injection e with e; exact .inr (by omega)
set_option maxHeartbeats 2000000 in
theorem items_fr {w W : World} {k : Nat} {r : Rst} {os : List Thing} (H : Rdr w W k r os) :
    Calls Tryd.prog 24 #[.pointer (some ⟨k, 0, none⟩)] W fun E W' => ∃ r1 c1, E = .returned (.slice (slA r1) (numR r 64).1 c1) ∧ Rdr w W' k (itemsR (numR r 64).1 (numR r 64).2).2 (rwT r1 c1 (itemsR (numR r 64).1 (numR r 64).2).1 :: os) := by
  have HN := Lib.hid (num_fr H 64)
  have HN64 := numR_le r 64
  obtain ⟨n, hn⟩ : ∃ x, x = (numR r 64).1 := ⟨_, rfl⟩
  obtain ⟨rn, hrn⟩ : ∃ x, x = (numR r 64).2 := ⟨_, rfl⟩
  rw [← hn, ← hrn] at HN
  rw [← hn] at HN64
  rw [← hn, ← hrn]
  clear hn hrn H
  go_enter Tryd.func24, Tryd.ntmps24
  go_wp2_with (go_at_call 19
               refine HN.out.mono ?_
               rintro E w1 ⟨rfl, h1⟩
               have H1 : Hid (Rdr w w1 k (itemsR 0 rn).2 (rwT none 0 (itemsR 0 rn).1 :: os)) := Lib.hid (by
                 obtain ⟨A, c, h, hb⟩ := h1
                 exact ⟨A, c, (h.add (o := rwT none 0 []) (Below.refl _ _) ⟨rfl, rfl⟩ (rwT_ok _ _ _) (fun k e => by cases e)).swap, hb⟩)
               clear h1 HN)
  go_loopw [3, 7] (fun v3 v7 wr => ∃ (j : Nat) (r1 : Option Nat) (c1 : Nat), j ≤ n ∧ v3 = .slice (slA r1) j c1 ∧ v7 = .int .u64 (j : Int) ∧ Hid (Rdr w wr k (itemsR j rn).2 (rwT r1 c1 (itemsR j rn).1 :: os))) (fun _ v7 _ => n - (intOf v7).toNat)
  case atStart => exact ⟨0, none, 0, by omega, rfl, rfl, H1⟩
  case round =>
    clear H1
    obtain ⟨j, r1, c1, hj, rfl, rfl, D⟩ := hrel
    by_cases hjj : j < n
    · have hjj' : (j : Int) < (n : Int) := by omega
      have HT := Lib.hid (text_fr D.out)
      have HIR : Hid (itemsR (j + 1) rn = ((itemsR j rn).1 ++ [(itemR (itemsR j rn).2).1], (itemR (itemsR j rn).2).2)) := Lib.hid rfl
      have HLJ := Lib.hid (itemsR_length j rn)
      obtain ⟨xs, hxs⟩ : ∃ x, x = (itemsR j rn).1 := ⟨_, rfl⟩
      obtain ⟨ra, hra⟩ : ∃ x, x = (itemsR j rn).2 := ⟨_, rfl⟩
      have HIT : Hid (itemR ra = ((Sh.str (texR ra).1, Sh.str (texR (texR ra).2).1), (texR (texR ra).2).2)) := Lib.hid rfl
      rw [← hxs, ← hra] at HT HIR

      rw [← hxs] at HLJ
      obtain ⟨key, hkey⟩ : ∃ x, x = Sh.str (texR ra).1 := ⟨_, rfl⟩
      obtain ⟨rb, hrb⟩ : ∃ x, x = (texR ra).2 := ⟨_, rfl⟩
      rw [← hkey, ← hrb] at HT HIT
      clear D hxs hra hkey hrb
      obtain ⟨val, hval⟩ : ∃ x, x = Sh.str (texR rb).1 := ⟨_, rfl⟩
      obtain ⟨rc, hrc⟩ : ∃ x, x = (texR rb).2 := ⟨_, rfl⟩
      have HT2 : Hid (∀ W1 os1, Rdr w W1 k rb os1 → Calls Tryd.prog 36 #[.pointer (some ⟨k, 0, none⟩)] W1 fun E W' => E = .returned (.string val) ∧ Rdr w W' k rc os1) := Lib.hid fun W1 os1 h => by rw [hval, hrc]; exact text_fr h
      rw [← hval, ← hrc] at HIT
      clear hval hrc
      obtain ⟨i0, hi0, hz0, hzs, hzb⟩ := info_parts Tryd.info81
      have HI0 := Lib.hid (And.intro hi0 (And.intro hz0 (And.intro hzs hzb)))
      clear hi0 hz0 hzs hzb
      have hwj : IntKind.u64.wrap ((j : Int) + 1) = (j : Int) + 1 := by rw [IntKind.wrap_u64]; omega
      go_wp2_with (first
        | (go_at_call 36
           refine HT.out.mono ?_
           rintro E w1 ⟨rfl, h1⟩
           have H1 := Lib.hid h1
           clear h1 HT)
        | (go_at_call 36
           refine (HT2.out _ _ H1.out).mono ?_
           rintro E w2 ⟨rfl, h2⟩
           have H2 : Hid (Rdr w (w2.alloc (.cells #[.string key, .string val] 81)) k rc (rwT r1 c1 xs :: os)) := Lib.hid (by
             obtain ⟨A, c, h, hb⟩ := h2
             exact ⟨A, c, h.below ((Below.refl _ _).alloc (Nat.le_refl _) _), hb⟩)
           have HO : Hid ((w2.alloc (.cells #[.string key, .string val] 81)).ownsRow 0 81 2 (.slice (slA r1) j c1) j (itC xs)) := Lib.hid (by
             obtain ⟨A, c, h, hb⟩ := H2.out
             have := Rw.owned (show Rw _ r1 c1 xs from h.hd2)
             rw [HLJ.out] at this
             exact this)
           clear h2 HT2 H1)
        | (at_builtin
           refine wpList_append_own_at _ rfl (.tmp 11) (.tmp 16) 45 rfl 0 81 i0 _ 2 32 Tryd.underlying45 HI0.out.1 HI0.out.2.1 HI0.out.2.2.1 HI0.out.2.2.2 rfl (by decide) _ j (itC xs) rfl HO.out ⟨w2.heap.size, 0, none⟩ 1 1 (pC (key, val)) rfl rfl (fun i u hu => by rw [Addr.add_lit, Nat.zero_add]; exact block_cell (C := pC (key, val)) (t := 81) (heap_alloc_new w2 (.cells (pC (key, val)).toArray 81)) i u hu) (pC_one (key, val)) (by unfold maxLen; omega) (by omega) (Nat.zero_le _) ?_
           intro v' w' h1 h2 _ h4
           rw [← HLJ.out] at h1 h2 h4
           obtain ⟨r2, c2, rfl, h3⟩ := H2.out.app h1 h2 h4
           rw [HLJ.out]
           have D' : Hid (Rdr w w' k (itemsR (j + 1) rn).2 (rwT r2 c2 (itemsR (j + 1) rn).1 :: os)) := Lib.hid (by rw [HIR.out, HIT.out]; exact h3)
           clear h1 h2 h3 h4 H2 HO))
      go_roundw
      case measure => simp [intOf] <;> omega
      case rel => exact ⟨j + 1, r2, c2, by omega, rfl, by go_num, D'⟩
    · obtain rfl : j = n := by omega
      go_wp2_with fail
      go_ret
      exact ⟨_, _, rfl, D.out⟩
open Go.RowKit
set_option maxRecDepth 100000

def spoil (r : Rst) (ok : Bool) : Rst := (r.1, r.2 || !ok)
/-- What is read of the bytes, and what is left. -/
def ofA (b : List UInt8) : Nat × Rst := numR (b, false) 18446744073709551615
def ofB (b : List UInt8) : List Lst × Rst := lastsR 8 (ofA b).2
def ofC (b : List UInt8) : Nat × Rst := numR (spoil (ofB b).2 (okT (ofB b).1)) 64
def ofD (b : List UInt8) : List It × Rst := itemsR (ofC b).1 (ofC b).2
def ofZ (b : List UInt8) : Rst := spoil (spoil (ofD b).2 (mayI ByteArray.empty (ofD b).1)) (decide ((ofD b).2.1.length = 0))
def ofS (b : List UInt8) : MSt := ⟨(ofA b).1, (ofB b).1, (ofD b).1⟩
/-- The state of the bytes, if there is one. -/
def ofR (b : List UInt8) : Option MSt := if (ofZ b).2 = true then none else some (ofS b)

theorem takeR_bad {r : Rst} (h : r.2 = true) (n : Nat) : (takeR r n).2.2 = true := by rw [takeR, if_pos (.inl h)]
theorem numR_bad {r : Rst} (h : r.2 = true) (m : Nat) : (numR r m).2.2 = true := by rw [numR, if_pos (.inl (takeR_bad h 8))]
theorem texR_bad {r : Rst} (h : r.2 = true) : (texR r).2.2 = true := takeR_bad (numR_bad h _) _
theorem itemR_bad {r : Rst} (h : r.2 = true) : (itemR r).2.2 = true := texR_bad (texR_bad h)
theorem itemsR_bad : ∀ (n : Nat) {r : Rst} (_ : r.2 = true), (itemsR n r).2.2 = true
  | 0, _, h => h
  | n + 1, _, h => itemR_bad (itemsR_bad n h)
theorem lastR_bad {r : Rst} (h : r.2 = true) : (lastR r).2.2 = true := texR_bad (numR_bad (numR_bad h _) _)
theorem lastsR_bad : ∀ (n : Nat) {r : Rst} (_ : r.2 = true), (lastsR n r).2.2 = true
  | 0, _, h => h
  | n + 1, _, h => lastR_bad (lastsR_bad n h)
theorem ofZ_good {b : List UInt8} (h : (ofZ b).2 = false) : (ofA b).2.2 = false ∧ (ofB b).2.2 = false ∧ okT (ofB b).1 = true ∧ (ofC b).2.2 = false ∧ (ofD b).2.2 = false ∧ mayI ByteArray.empty (ofD b).1 = true ∧ (ofD b).2.1 = [] := by
  simp only [ofZ, spoil, Bool.or_eq_false_iff, Bool.not_eq_false', decide_eq_true_eq] at h
  obtain ⟨⟨h1, h2⟩, h3⟩ := h
  have h4 : (ofC b).2.2 = false := Bool.eq_false_iff.2 fun e => by rw [ofD, itemsR_bad _ e] at h1; cases h1
  have h5 : (spoil (ofB b).2 (okT (ofB b).1)).2 = false := Bool.eq_false_iff.2 fun e => by rw [ofC, numR_bad e] at h4; cases h4
  simp only [spoil, Bool.or_eq_false_iff, Bool.not_eq_false'] at h5
  have h6 : (ofA b).2.2 = false := Bool.eq_false_iff.2 fun e => by have := h5.1; rw [ofB, lastsR_bad 8 e] at this; cases this
  exact ⟨h6, h5.1, h5.2, h4, h1, h2, List.eq_nil_of_length_eq_zero h3⟩
def tbT (ok : Bool) (t : Nat) (T : List Lst) : Thing := ⟨fun W => ok = true → Tbl W t T, fun k => ok = true ∧ k = t⟩
theorem tbT_ok (ok : Bool) (t : Nat) (T : List Lst) : (tbT ok t T).Ok := ⟨fun _ _ h hk _ e => (h e).kept (hk t ⟨e, rfl⟩), fun _ h k ⟨e, hk⟩ => by cases hk; exact (h e).lt⟩
def ldT (ok : Bool) (g : Nat) (r : Option Nat) (c : Nat) (xs : List It) : Thing := ⟨fun W => ok = true → Sys W g r c xs, fun k => ok = true ∧ On g r k⟩
theorem ldT_ok (ok : Bool) (g : Nat) (r : Option Nat) (c : Nat) (xs : List It) : (ldT ok g r c xs).Ok := ⟨fun _ _ h hk h5 e => (h e).off h5 fun k ho => hk k ⟨e, ho⟩, fun _ h k ⟨e, hk⟩ => (h e).led.on_lt k hk⟩
theorem Fr.merge3 {w W : World} {o a b c : Thing} {os : List Thing} (H : Fr w W (a :: b :: c :: os)) (hp : o.P W) (ok : o.Ok) (hf : ∀ k, o.F k → a.F k ∨ b.F k ∨ c.F k) : Fr w W (o :: os) := by
  obtain ⟨h1, h2⟩ := List.pairwise_cons.1 H.apart
  obtain ⟨h3, h4⟩ := List.pairwise_cons.1 h2
  obtain ⟨h5, h6⟩ := List.pairwise_cons.1 h4
  refine ⟨H.bel, H.vars, H.ks, fun x hx => ?_, List.Pairwise.cons (fun x hx k hk => ?_) h6⟩
  · rcases List.mem_cons.1 hx with rfl | hx
    · refine ⟨hp, ok, fun k hk => ?_⟩
      rcases hf k hk with e | e | e
      · exact H.ge k e
      · exact H.pop.ge k e
      · exact H.pop.pop.ge k e
    · exact H.pop.pop.pop.all x hx
  · rcases hf k hk with e | e | e
    · exact h1 x (by simp [hx]) k e
    · exact h3 x (by simp [hx]) k e
    · exact h5 x hx k e
theorem tof_u {w : World} {b : Nat} {T : List Lst} (hT : T.length = 8) (h : w.heap[b]? = some (.cells (tbC T).toArray 48 (0, 0))) : Calls Tryd.prog 20 #[.slice (some ⟨b, 0, none⟩) 8 8] w fun E w' => ∃ (p : Option Addr) (e : Int) (t : Nat), E = .returned (.tuple #[.pointer p, .int .i64 e]) ∧ Below w.heap.size w w' ∧ decide (e = 0) = okT T ∧ (okT T = true → p = some ⟨t, 0, none⟩ ∧ Tbl w' t T ∧ w.heap.size ≤ t) := by
  have := tof_any (c := 8) (Lss.of_block (R := []) (by rw [List.append_nil]; exact h)) (by omega)
  rw [hT] at this
  refine this.mono fun E w' ⟨hb, hx⟩ => ?_
  by_cases hok : T.length = 8 ∧ Late T
  · rw [if_pos hok] at hx
    obtain ⟨t, rfl, ht, hl⟩ := hx
    exact ⟨_, _, t, rfl, hb, (okT_iff.2 hok).symm, fun _ => ⟨rfl, ht, hl⟩⟩
  · rw [if_neg hok] at hx
    exact ⟨_, _, 0, hx, hb, (okT_no hok).symm, fun e => absurd (okT_iff.1 e) hok⟩
theorem of_u {w : World} (hv : Vars w) {r : Option Nat} {c : Nat} {xs : List It} (h : Rw w r c xs) (hn : xs.length ≤ 64) : Calls Tryd.prog 23 #[.slice (slA r) xs.length c] w fun E w' => ∃ (p : Option Addr) (e : Int) (g : Nat) (r' : Option Nat) (c' : Nat), E = .returned (.tuple #[.pointer p, .int .i64 e]) ∧ Below w.heap.size w w' ∧ decide (e = 0) = mayI ByteArray.empty xs ∧ (mayI ByteArray.empty xs = true → p = some ⟨g, 0, none⟩ ∧ Sys w' g r' c' xs ∧ ∀ k, On g r' k → w.heap.size ≤ k) := by
  refine (of_any hv h (by omega)).mono fun E w' ⟨hb, hx⟩ => ?_
  by_cases hok : mayI ByteArray.empty xs = true
  · rw [if_pos hok, if_pos hn] at hx
    obtain ⟨g, r', c', rfl, hs, ho⟩ := hx
    exact ⟨_, _, g, r', c', rfl, hb, hok.symm, fun _ => ⟨rfl, hs, ho⟩⟩
  · rw [if_neg hok] at hx
    exact ⟨_, _, 0, none, 0, hx, hb, (Bool.eq_false_iff.2 hok).symm, fun e => absurd e hok⟩
theorem Rdr.add {w W W' : World} {k : Nat} {r : Rst} {os : List Thing} {o : Thing} (H : Rdr w W k r os) (hb : Below W.heap.size W W') (hp : o.P W') (ok : o.Ok) (hf : ∀ k, o.F k → W.heap.size ≤ k) : Rdr w W' k r (o :: os) := by
  obtain ⟨A, c, h, h2⟩ := H
  exact ⟨A, c, (h.add hb hp ok hf).swap, h2⟩
theorem Rdr.hd {w W : World} {k : Nat} {r : Rst} {os : List Thing} {o : Thing} (H : Rdr w W k r (o :: os)) : o.P W := let ⟨_, _, h, _⟩ := H; h.hd2
theorem Rdr.below {w W W' : World} {k : Nat} {r : Rst} {os : List Thing} (H : Rdr w W k r os) (hb : Below W.heap.size W W') : Rdr w W' k r os := let ⟨A, c, h, h2⟩ := H; ⟨A, c, h.below hb, h2⟩
theorem Rdr.varsW {w W : World} {k : Nat} {r : Rst} {os : List Thing} (H : Rdr w W k r os) : Vars W := let ⟨_, _, h, _⟩ := H; h.varsW
theorem Rdr.sl {w W : World} {k : Nat} {r : Rst} {os : List Thing} (H : Rdr w W k r os) : ∃ A c, W.cell? ⟨k, 0, none⟩ = some (.slice A r.1.length c) ∧ W.cell? ⟨k, 1, none⟩ = some (.int .i64 (if r.2 then 5 else 0)) := by
  obtain ⟨A, c, h, h2⟩ := H
  exact ⟨A, c, block_cell (C := [.slice A r.1.length c, .int .i64 (if r.2 then 5 else 0)]) h.hd 0 _ rfl, block_cell (C := [.slice A r.1.length c, .int .i64 (if r.2 then 5 else 0)]) h.hd 1 _ rfl⟩
/-- What Of answers. -/
def OfAns (b : List UInt8) (w : World) (E : Ending) (w' : World) : Prop := Below w.heap.size w w' ∧ (ofR b = none → E = .returned (.tuple #[.pointer none, .int .i64 5])) ∧ ∀ S, ofR b = some S → ∃ s t g r c, E = .returned (.tuple #[.pointer (some ⟨s, 0, none⟩), .int .i64 0]) ∧ Fr w w' [stT s t g r c S]
set_option maxHeartbeats 2000000 in
theorem of_state {w : World} (hv : Vars w) (hk : Sh.KIs w) {A : Option Addr} {b : List UInt8} {c : Nat} (h : Bs w A b c) : Calls Tryd.prog 11 #[.slice A b.length c] w fun E w' => OfAns b w E w' := by
  have H0 : Hid (Rdr w (w.alloc (.cells #[.slice A b.length c, .int .i64 0] 60)) w.heap.size (b, false) []) := Lib.hid ⟨A, c, (Fr.start hv hk).box _ _, h⟩
  have HNA : Hid (ofA b = numR (b, false) 18446744073709551615) := Lib.hid rfl
  have HA := Lib.hid (num_fr H0.out 18446744073709551615)
  rw [← HNA.out] at HA
  obtain ⟨x, hx⟩ : ∃ x, x = (ofA b).1 := ⟨_, rfl⟩
  obtain ⟨ra, hra⟩ : ∃ x, x = (ofA b).2 := ⟨_, rfl⟩
  have HX := Lib.hid hx
  have HRA := Lib.hid hra
  rw [← hx, ← hra] at HA
  obtain ⟨k, hk'⟩ : ∃ k, k = w.heap.size := ⟨_, rfl⟩
  clear hx hra HNA h H0
  go_enter Tryd.func11, Tryd.ntmps11
  go_wp2_with (go_at_call 19
               refine HA.out.mono ?_
               rintro E w1 ⟨rfl, h1⟩
               have HB := Lib.hid (lasts_fr h1)
               clear h1 HA)
  have HT8 : Hid ((ofB b).1.length = 8) := Lib.hid (lastsR_length 8 _)
  have HEB : Hid (lastsR 8 ra = ofB b) := Lib.hid (by rw [HRA.out]; rfl)
  rw [HEB.out] at HB
  refine HB.out.mono ?_
  rintro E w2 ⟨b8, rfl, h2⟩
  have H2 := Lib.hid h2
  clear h2 HB HEB
  go_wp2_with (go_at_call 20; refine (tof_u HT8.out H2.out.get).mono ?_)
  rintro E w3 ⟨p1, e1, t, rfl, hb3, he1, hok1⟩
  obtain ⟨z1, hz1⟩ : ∃ z, z = okT (ofB b).1 := ⟨_, rfl⟩
  have HZ1 := Lib.hid hz1
  rw [← hz1] at he1 hok1
  have H3 : Hid (Rdr w w3 w.heap.size (ofB b).2 (tbT z1 t (ofB b).1 :: [blkT b8 (tbC (ofB b).1).toArray 48])) := Lib.hid (H2.out.add hb3 (fun e => (hok1 e).2.1) (tbT_ok _ _ _) fun k hk => by obtain ⟨e, rfl⟩ := hk; exact (hok1 e).2.2)
  have HP1 : Hid (z1 = true → p1 = some ⟨t, 0, none⟩) := Lib.hid fun e => (hok1 e).1
  have he1' : (e1 == 0) = z1 := by rw [← he1]; rfl
  have HEC : Hid (ofC b = numR (spoil (ofB b).2 z1) 64) := Lib.hid (by rw [hz1]; rfl)
  have HED : Hid (ofD b = itemsR (ofC b).1 (ofC b).2) := Lib.hid rfl
  clear hb3 hok1 hz1 H2
  go_wp2_with (go_at_call 22
               refine (need_fr H3.out z1).mono ?_
               rintro E w4 ⟨rfl, h4⟩
               have HI := Lib.hid (items_fr h4)
               clear h4 H3)
  rw [show numR ((ofB b).2.1, (ofB b).2.2 || !z1) 64 = ofC b from HEC.out.symm, ← HED.out] at HI
  have HXL : Hid ((ofD b).1.length = (ofC b).1) := Lib.hid (by rw [HED.out]; exact itemsR_length _ _)
  have HX64 : Hid ((ofD b).1.length ≤ 64) := Lib.hid (by rw [HXL.out, HEC.out]; exact numR_le _ _)
  refine HI.out.mono ?_
  rintro E w5 ⟨r1, c1, rfl, h5⟩
  have H5 := Lib.hid h5
  have HOF := Lib.hid (of_u h5.varsW (show Rw w5 r1 c1 (ofD b).1 from h5.hd) HX64.out)
  rw [HXL.out] at HOF
  clear h5 HI
  go_wp2_with (go_at_call 23; refine HOF.out.mono ?_)
  rintro E w6 ⟨p2, e2, g, r2, c2, rfl, hb6, he2, hok2⟩
  obtain ⟨z2, hz2⟩ : ∃ z, z = mayI ByteArray.empty (ofD b).1 := ⟨_, rfl⟩
  have HZ2 := Lib.hid hz2
  rw [← hz2] at he2 hok2
  have H6 : Hid (Rdr w w6 w.heap.size (ofD b).2 (ldT z2 g r2 c2 (ofD b).1 :: rwT r1 c1 (ofD b).1 :: tbT z1 t (ofB b).1 :: [blkT b8 (tbC (ofB b).1).toArray 48])) := Lib.hid (H5.out.add hb6 (fun e => (hok2 e).2.1) (ldT_ok _ _ _ _ _) fun k hk => (hok2 hk.1).2.2 k hk.2)
  have HP2 : Hid (z2 = true → p2 = some ⟨g, 0, none⟩) := Lib.hid fun e => (hok2 e).1
  have he2' : (e2 == 0) = z2 := by rw [← he2]; rfl
  clear hb6 hok2 hz2 H5 HOF
  go_wp2_with (go_at_call 22
               refine (need_fr H6.out z2).mono ?_
               rintro E w7 ⟨rfl, h7⟩
               have H7 := Lib.hid h7
               obtain ⟨A7, c7, k7, _⟩ := h7.sl
               dsimp only at k7
               obtain ⟨m, hm⟩ : ∃ m, m = (ofD b).2.1.length := ⟨_, rfl⟩
               have HM := Lib.hid hm
               rw [← hm] at k7
               clear h7 H6 hm)
  have HN8 : Hid (∀ z, (ofZ b).2 = z → Calls Tryd.prog 22 #[.pointer (some ⟨w.heap.size, 0, none⟩), .bool ((m : Int) == 0)] w7 fun E W' => E = .returned (.tuple #[]) ∧ Rdr w W' w.heap.size ((ofD b).2.1, z) (ldT z2 g r2 c2 (ofD b).1 :: rwT r1 c1 (ofD b).1 :: tbT z1 t (ofB b).1 :: [blkT b8 (tbC (ofB b).1).toArray 48])) := Lib.hid fun z hz => by
    have h := need_fr H7.out ((m : Int) == 0)
    have hm0 : ((m : Int) == 0) = decide ((ofD b).2.1.length = 0) := by
      rw [← HM.out, Bool.eq_iff_iff, beq_iff_eq, decide_eq_true_eq]; omega
    rw [← hz]
    simp only [ofZ, spoil]
    rw [← HZ2.out, ← hm0]
    exact h
  clear H7
  cases hz : (ofZ b).2 with
  | true =>
    have HN9 := Lib.hid (HN8.out true hz)
    have HR : Hid (ofR b = none) := Lib.hid (if_pos hz)
    clear HN8 hz
    go_wp2_with (go_at_call 22
                 refine HN9.out.mono ?_
                 rintro E w8 ⟨rfl, h8⟩
                 have H8 := Lib.hid h8
                 have k8 := H8.out.err
                 clear h8 HN9)
    go_quiet (fail)
    go_wp2_with fail
    go_ret2
    exact ⟨below_drewN H8.out.bel _, fun _ => rfl, fun S hS => by rw [HR.out] at hS; cases hS⟩
  | false =>
    have HN9 := Lib.hid (HN8.out false hz)
    have HR : Hid (ofR b = some (ofS b)) := Lib.hid (if_neg (by rw [hz]; decide))
    have HG := Lib.hid (ofZ_good hz)
    obtain ⟨_, _, hg1, _, _, hg2, _⟩ := ofZ_good hz
    have hp1 := HP1.out (HZ1.out.trans hg1)
    have hp2 := HP2.out (HZ2.out.trans hg2)
    subst hp1 hp2
    clear HN8 hz
    go_wp2_with (go_at_call 22
                 refine HN9.out.mono ?_
                 rintro E w8 ⟨rfl, h8⟩
                 have H8 := Lib.hid h8
                 have k8 := H8.out.err
                 clear h8 HN9)
    have HNU : Hid (x < 18446744073709551616) := Lib.hid (by rw [HX.out]; have := numR_le (b, false) 18446744073709551615; exact Nat.lt_succ_of_le this)
    have HZ : Hid (Fr w (w8.alloc (.cells #[.int .u64 (x : Int), .pointer (some ⟨t, 0, none⟩), .pointer (some ⟨g, 0, none⟩)] 55)) [stT w8.heap.size t g r2 c2 (ofS b)]) := Lib.hid (by
      obtain ⟨A', c', h8, _⟩ := H8.out
      have h9 := h8.box #[.int .u64 (x : Int), .pointer (some ⟨t, 0, none⟩), .pointer (some ⟨g, 0, none⟩)] 55
      have h10 : Fr w _ (blkT w8.heap.size #[.int .u64 (x : Int), .pointer (some ⟨t, 0, none⟩), .pointer (some ⟨g, 0, none⟩)] 55 :: ldT z2 g r2 c2 (ofD b).1 :: tbT z1 t (ofB b).1 :: [rwT r1 c1 (ofD b).1]) := (h9.sub (os' := [blkT w8.heap.size #[.int .u64 (x : Int), .pointer (some ⟨t, 0, none⟩), .pointer (some ⟨g, 0, none⟩)] 55, ldT z2 g r2 c2 (ofD b).1, rwT r1 c1 (ofD b).1, tbT z1 t (ofB b).1]) (((List.Sublist.cons _ (((List.nil_sublist _).cons_cons _).cons_cons _ |>.cons_cons _))).cons_cons _)).perm (((List.Perm.swap ..).cons _).cons _)
      have hz1 : z1 = true := HZ1.out.trans HG.out.2.2.1
      have hz2 : z2 = true := HZ2.out.trans HG.out.2.2.2.2.2.1
      refine (h10.merge3 (o := stT w8.heap.size t g r2 c2 (ofS b)) ⟨?_, ?_, ?_, ?_, ?_⟩ (stT_ok _ _ _ _ _ _) ?_).sub ((List.nil_sublist _).cons_cons _)
      · rw [show (ofS b).n = x from HX.out.symm]; exact h10.hd
      · exact h10.hd3 hz1
      · exact h10.hd2 hz2
      · have := h10.pop.pop.ge t ⟨hz1, rfl⟩
        have := h10.low
        omega
      · rw [show (ofS b).n = x from HX.out.symm]; exact HNU.out
      · rintro k ((e | e) | e)
        · exact .inr (.inl ⟨hz2, e⟩)
        · exact .inr (.inr ⟨hz1, e⟩)
        · exact .inl e)
    clear H8
    go_ret2
    exact ⟨HZ.out.bel, (fun hn => by rw [HR.out] at hn; cases hn), fun S hS => by rw [HR.out] at hS; cases hS; exact ⟨_, _, _, _, _, rfl, HZ.out⟩⟩
open Go.RowKit
set_option maxRecDepth 100000

theorem str_size (l : List UInt8) : (Sh.str l).size = l.length := by simp [Sh.str, ByteArray.size]
theorem str_list (l : List UInt8) : (Sh.str l).data.toList = l := rfl
theorem list_str (s : ByteArray) : Sh.str s.data.toList = s := rfl
theorem takeR_app (a t : List UInt8) {n : Nat} (hn : n = a.length) : takeR (a ++ t, false) n = (a, (t, false)) := by
  subst hn
  rw [takeR, if_neg (by simp)]
  simp
theorem numR_app {n most : Nat} (h1 : n ≤ most) (h2 : n < 18446744073709551616) (t : List UInt8) : numR (w8 n ++ t, false) most = (n, (t, false)) := by
  have h := takeR_app (w8 n) t (n := 8) (w8_length n).symm
  rw [numR, h]
  dsimp only
  rw [num8_w8 h2, if_neg (by simp; omega)]
theorem texR_app {s : ByteArray} (h : s.size < 18446744073709551616) (t : List UInt8) : texR (tB s ++ t, false) = (s.data.toList, (t, false)) := by
  rw [texR, tB, List.append_assoc, numR_app (by omega) h]
  exact takeR_app _ _ (by simp)
/-- What may stand in a state's bytes. -/
def GoodL (p : Lst) : Prop := p.1 < 18446744073709551616 ∧ 0 ≤ p.2.1 ∧ p.2.1 ≤ 2147483647 ∧ p.2.2.size < 18446744073709551616
structure Good (S : MSt) : Prop where
  n : S.n < 18446744073709551616
  len : S.T.length = 8
  late : Late S.T
  good : ∀ p ∈ S.T, GoodL p
  xlen : S.xs.length ≤ 64
  may : mayI ByteArray.empty S.xs = true
theorem lastR_app {p : Lst} (h : GoodL p) (t : List UInt8) : lastR (lstB p ++ t, false) = (p, (t, false)) := by
  obtain ⟨a, e, s⟩ := p
  obtain ⟨h1, h2, h3, h4⟩ := h
  dsimp only at h1 h2 h3 h4
  have hw : (IntKind.u64.wrap e).toNat = e.toNat := by rw [IntKind.wrap_u64]; omega
  simp only [lastR, lstB, hw, List.append_assoc]
  rw [numR_app (by omega) h1]
  dsimp only
  rw [numR_app (n := e.toNat) (by omega) (by omega)]
  dsimp only
  rw [texR_app h4]
  dsimp only
  rw [list_str, Int.toNat_of_nonneg h2]
theorem lastsR_app {T : List Lst} (h : ∀ p ∈ T, GoodL p) (t : List UInt8) : ∀ n, n ≤ T.length → lastsR n (T.flatMap lstB ++ t, false) = (T.take n, ((T.drop n).flatMap lstB ++ t, false))
  | 0, _ => by simp [lastsR]
  | n + 1, hn => by
    have hp : T[n]? = some (T[n]'(by omega)) := List.getElem?_eq_getElem (by omega)
    rw [lastsR, lastsR_app h t n (by omega)]
    dsimp only
    rw [List.drop_eq_getElem_cons (show n < T.length by omega), List.flatMap_cons, List.append_assoc, lastR_app (h _ (List.getElem_mem _))]
    rw [List.take_add_one, hp]
    rfl
theorem itemR_app {p : It} (h : p.1.size < 18446744073709551616 ∧ p.2.size < 18446744073709551616) (t : List UInt8) : itemR (itB p ++ t, false) = (p, (t, false)) := by
  rw [itemR, itB, List.append_assoc, texR_app h.1]
  dsimp only
  rw [texR_app h.2]
  rfl
theorem itemsR_app {T : List It} (h : ∀ p ∈ T, p.1.size < 18446744073709551616 ∧ p.2.size < 18446744073709551616) (t : List UInt8) : ∀ n, n ≤ T.length → itemsR n (T.flatMap itB ++ t, false) = (T.take n, ((T.drop n).flatMap itB ++ t, false))
  | 0, _ => by simp [itemsR]
  | n + 1, hn => by
    have hp : T[n]? = some (T[n]'(by omega)) := List.getElem?_eq_getElem (by omega)
    rw [itemsR, itemsR_app h t n (by omega)]
    dsimp only
    rw [List.drop_eq_getElem_cons (show n < T.length by omega), List.flatMap_cons, List.append_assoc, itemR_app (h _ (List.getElem_mem _))]
    rw [List.take_add_one, hp]
    rfl
theorem may_size {xs : List It} (h : mayI ByteArray.empty xs = true) : ∀ p ∈ xs, p.1.size < 18446744073709551616 ∧ p.2.size < 18446744073709551616 := fun p hp => by
  obtain ⟨_, h1, h2, _⟩ := mayI_rise h
  have a := h1 p hp
  have b := h2 p hp
  simp only [mayK, Bool.and_eq_true, decide_eq_true_eq] at a
  omega
theorem of_parts {S : MSt} (h : Good S) (t : List UInt8) : ofA (stB S ++ t) = (S.n, (S.T.flatMap lstB ++ (w8 S.xs.length ++ (S.xs.flatMap itB ++ t)), false)) ∧ ofB (stB S ++ t) = (S.T, (w8 S.xs.length ++ (S.xs.flatMap itB ++ t), false)) ∧ ofC (stB S ++ t) = (S.xs.length, (S.xs.flatMap itB ++ t, false)) ∧ ofD (stB S ++ t) = (S.xs, (t, false)) := by
  have h1 : ofA (stB S ++ t) = (S.n, (S.T.flatMap lstB ++ (w8 S.xs.length ++ (S.xs.flatMap itB ++ t)), false)) := by
    simp only [ofA, stB, List.append_assoc]
    exact numR_app (by have := h.n; omega) h.n _
  have h2 : ofB (stB S ++ t) = (S.T, (w8 S.xs.length ++ (S.xs.flatMap itB ++ t), false)) := by
    rw [ofB, h1]
    have := lastsR_app h.good (w8 S.xs.length ++ (S.xs.flatMap itB ++ t)) 8 (by rw [h.len]; exact Nat.le_refl _)
    rw [List.take_of_length_le (by rw [h.len]; exact Nat.le_refl _), List.drop_of_length_le (by rw [h.len]; exact Nat.le_refl _)] at this
    exact this
  have h3 : ofC (stB S ++ t) = (S.xs.length, (S.xs.flatMap itB ++ t, false)) := by
    rw [ofC, h2]
    dsimp only
    rw [okT_iff.2 ⟨h.len, h.late⟩]
    exact numR_app h.xlen (by have := h.xlen; omega) _
  refine ⟨h1, h2, h3, ?_⟩
  rw [ofD, h3]
  have := itemsR_app (may_size h.may) t S.xs.length (Nat.le_refl _)
  rw [List.take_length, List.drop_length] at this
  exact this
theorem ofZ_app {S : MSt} (h : Good S) (t : List UInt8) : (ofZ (stB S ++ t)).2 = !decide (t.length = 0) := by
  rw [ofZ, (of_parts h t).2.2.2]
  dsimp only [spoil]
  rw [h.may]
  simp
/-- A state's bytes are read as that state. -/
theorem of_stB {S : MSt} (h : Good S) : ofR (stB S) = some S := by
  have h1 := ofZ_app h []
  have h2 := of_parts h []
  rw [List.append_nil] at h1 h2
  rw [ofR, if_neg (by rw [h1]; decide), ofS, h2.1, h2.2.1, h2.2.2.2]
/-- With anything behind they are none. -/
theorem of_more {S : MSt} (h : Good S) {t : List UInt8} (ht : t ≠ []) : ofR (stB S ++ t) = none := by
  rw [ofR, if_pos]
  rw [ofZ_app h t]
  have : t.length ≠ 0 := fun e => ht (List.eq_nil_of_length_eq_zero e)
  simp [this]
theorem takeR_good {r : Rst} {n : Nat} (h : (takeR r n).2.2 = false) : r.1 = (takeR r n).1 ++ (takeR r n).2.1 ∧ (takeR r n).1.length = n := by
  unfold takeR at h ⊢
  split at h
  · cases h
  · next hn =>
    rw [if_neg hn]
    simp at hn
    exact ⟨(List.take_append_drop n r.1).symm, by simp; omega⟩
theorem numR_good {r : Rst} {m : Nat} (h : (numR r m).2.2 = false) : r.1 = w8 (numR r m).1 ++ (numR r m).2.1 ∧ (numR r m).1 < 18446744073709551616 := by
  unfold numR at h ⊢
  split at h
  · cases h
  · next hn =>
    rw [if_neg hn]
    have h' : (takeR r 8).2.2 = false := h
    obtain ⟨h1, h2⟩ := takeR_good h'
    exact ⟨by rw [w8_num8 h2]; exact h1, num8_lt h2⟩
theorem texR_good {r : Rst} (h : (texR r).2.2 = false) : r.1 = tB (Sh.str (texR r).1) ++ (texR r).2.1 ∧ (texR r).1.length < 18446744073709551616 := by
  obtain ⟨h1, h2⟩ := takeR_good (r := (numR r 18446744073709551615).2) (n := (numR r 18446744073709551615).1) h
  have h3 : (numR r 18446744073709551615).2.2 = false := Bool.eq_false_iff.2 fun e => by rw [texR, takeR_bad e] at h; cases h
  obtain ⟨h4, h5⟩ := numR_good h3
  refine ⟨?_, by rw [texR, h2]; exact h5⟩
  rw [tB, str_size, str_list, List.append_assoc, texR, h2, ← h1]
  exact h4
theorem lastR_good {r : Rst} (h : (lastR r).2.2 = false) : r.1 = lstB (lastR r).1 ++ (lastR r).2.1 ∧ GoodL (lastR r).1 ∧ r.2 = false := by
  have h1 : (numR (numR r 18446744073709551615).2 2147483647).2.2 = false := Bool.eq_false_iff.2 fun e => by rw [lastR, texR_bad e] at h; cases h
  have h2 : (numR r 18446744073709551615).2.2 = false := Bool.eq_false_iff.2 fun e => by rw [numR_bad e] at h1; cases h1
  have h3 : r.2 = false := Bool.eq_false_iff.2 fun e => by rw [numR_bad e] at h2; cases h2
  obtain ⟨a1, a2⟩ := numR_good h2
  obtain ⟨b1, b2⟩ := numR_good h1
  obtain ⟨c1, c2⟩ := texR_good (r := (numR (numR r 18446744073709551615).2 2147483647).2) h
  have hle := numR_le (numR r 18446744073709551615).2 2147483647
  refine ⟨?_, ⟨a2, by simp [lastR], ?_, by simpa [lastR, str_size] using c2⟩, h3⟩
  · have hw : (IntKind.u64.wrap (lastR r).1.2.1).toNat = (numR (numR r 18446744073709551615).2 2147483647).1 := by
      show (IntKind.u64.wrap ((numR (numR r 18446744073709551615).2 2147483647).1 : Int)).toNat = _
      rw [IntKind.wrap_u64]; omega
    rw [lstB, hw, List.append_assoc, List.append_assoc]
    show r.1 = w8 (numR r 18446744073709551615).1 ++ (w8 (numR (numR r 18446744073709551615).2 2147483647).1 ++ (tB (Sh.str (texR (numR (numR r 18446744073709551615).2 2147483647).2).1) ++ (texR (numR (numR r 18446744073709551615).2 2147483647).2).2.1))
    rw [← c1, ← b1]
    exact a1
  · show ((numR (numR r 18446744073709551615).2 2147483647).1 : Int) ≤ 2147483647
    omega
theorem lastsR_good : ∀ (n : Nat) {r : Rst} (_ : (lastsR n r).2.2 = false), r.1 = (lastsR n r).1.flatMap lstB ++ (lastsR n r).2.1 ∧ (∀ p ∈ (lastsR n r).1, GoodL p)
  | 0, _, _ => ⟨rfl, by intro p hp; cases hp⟩
  | n + 1, r, h => by
    obtain ⟨h1, h2, h3⟩ := lastR_good (r := (lastsR n r).2) h
    obtain ⟨h4, h5⟩ := lastsR_good n h3
    refine ⟨?_, fun p hp => ?_⟩
    · rw [h4, h1]
      simp [lastsR]
    · rcases List.mem_append.1 hp with hp | hp
      · exact h5 p hp
      · rw [List.mem_singleton] at hp
        rw [hp]; exact h2
theorem itemR_good {r : Rst} (h : (itemR r).2.2 = false) : r.1 = itB (itemR r).1 ++ (itemR r).2.1 ∧ r.2 = false := by
  have h1 : (texR r).2.2 = false := Bool.eq_false_iff.2 fun e => by rw [itemR, texR_bad e] at h; cases h
  have h2 : r.2 = false := Bool.eq_false_iff.2 fun e => by rw [texR_bad e] at h1; cases h1
  obtain ⟨a1, _⟩ := texR_good h1
  obtain ⟨b1, _⟩ := texR_good (r := (texR r).2) h
  refine ⟨?_, h2⟩
  rw [itB, List.append_assoc]
  show r.1 = tB (Sh.str (texR r).1) ++ (tB (Sh.str (texR (texR r).2).1) ++ (texR (texR r).2).2.1)
  rw [← b1]
  exact a1
theorem itemsR_good : ∀ (n : Nat) {r : Rst} (_ : (itemsR n r).2.2 = false), r.1 = (itemsR n r).1.flatMap itB ++ (itemsR n r).2.1
  | 0, _, _ => rfl
  | n + 1, r, h => by
    obtain ⟨h1, h3⟩ := itemR_good (r := (itemsR n r).2) h
    have h4 := itemsR_good n h3
    rw [h4, h1]
    simp [itemsR]
/-- What is read as a state are its bytes. -/
theorem of_inv {b : List UInt8} {S : MSt} (h : ofR b = some S) : b = stB S ∧ Good S := by
  unfold ofR at h
  split at h
  · cases h
  · next hz =>
    injection h with h
    subst h
    obtain ⟨h1, h2, h3, h4, h5, h6, h7⟩ := ofZ_good (Bool.eq_false_iff.2 hz)
    obtain ⟨a1, a2⟩ := numR_good (r := (b, false)) h1
    obtain ⟨b1, b2⟩ := lastsR_good 8 (r := (ofA b).2) h2
    obtain ⟨c1, _⟩ := numR_good h4
    have d1 := itemsR_good _ h5
    have hl : (ofD b).1.length = (ofC b).1 := itemsR_length _ _
    have hle : (ofC b).1 ≤ 64 := numR_le _ _
    obtain ⟨o1, o2⟩ := okT_iff.1 h3
    refine ⟨?_, ⟨a2, o1, o2, b2, by show (ofD b).1.length ≤ 64; omega, h6⟩⟩
    show b = w8 (ofA b).1 ++ ((ofB b).1.flatMap lstB ++ (w8 (ofD b).1.length ++ (ofD b).1.flatMap itB))
    rw [hl]
    have d2 : (ofC b).2.1 = (ofD b).1.flatMap itB := by
      have := d1
      rw [show (itemsR (ofC b).1 (ofC b).2) = ofD b from rfl, h7, List.append_nil] at this
      exact this
    rw [← d2]
    have c2 : (ofB b).2.1 = w8 (ofC b).1 ++ (ofC b).2.1 := c1
    rw [← c2]
    have b3 : (ofA b).2.1 = (ofB b).1.flatMap lstB ++ (ofB b).2.1 := b1
    rw [← b3]
    exact a1
theorem of_less {S : MSt} (h : Good S) {k : Nat} (hk : k < (stB S).length) : ofR ((stB S).take k) = none := by
  cases hr : ofR ((stB S).take k) with
  | none => rfl
  | some S' =>
    obtain ⟨h1, h2⟩ := of_inv hr
    have h3 := of_more h2 (t := (stB S).drop k) (fun e => by have := congrArg List.length e; simp at this; omega)
    rw [← h1, List.take_append_drop, of_stB h] at h3
    cases h3
open Go.RowKit
set_option maxRecDepth 100000

theorem do_rep {xs : List It} (h : ∀ p ∈ xs, p.2.size ≤ 128) (o : MOp) : (doR xs o).1.1 ≤ 20 ∧ (doR xs o).1.2.size ≤ 128 := by
  have hv := val_small h o.key
  unfold doR getR putR delR swapR moveR
  repeat' split
  all_goals first
    | exact ⟨Nat.le_of_ble_eq_true rfl, Nat.zero_le _⟩
    | exact ⟨Nat.le_of_ble_eq_true rfl, hv⟩
    | skip
  all_goals
    rename_i a b e1 e2 _ h3 _
    have ha1 : a ≤ topN := (dec_of_num e1).2
    unfold topN at ha1
    exact ⟨Nat.le_of_ble_eq_true rfl, Nat.le_trans (dec_size (by omega)) (by omega)⟩
/-- A state that requests made. -/
structure Rch (S : MSt) : Prop where
  n : S.n < 18446744073709551616
  len : S.T.length = 8
  late : Late S.T
  good : ∀ p ∈ S.T, p.1 < 18446744073709551616 ∧ 0 ≤ p.2.1 ∧ p.2.1 ≤ 20 ∧ p.2.2.size ≤ 128
  xlen : S.xs.length ≤ 64
  rise : Rise S.xs
  keys : Keys S.xs
  small : ∀ p ∈ S.xs, p.2.size ≤ 128
theorem Rch.zero : Rch S0 := ⟨by decide, rfl, late_zT, (fun p hp => by rw [(List.mem_replicate.1 hp).2]; exact ⟨by decide, by decide, by decide, Nat.zero_le _⟩), Nat.zero_le _, List.Pairwise.nil, (fun p hp => by cases hp), (fun p hp => by cases hp)⟩
theorem Rch.good' {S : MSt} (h : Rch S) : Good S := ⟨h.n, h.len, h.late, fun p hp => by have := h.good p hp; exact ⟨this.1, this.2.1, by omega, by omega⟩, h.xlen, mayI_own h.rise h.keys h.small⟩
theorem Rch.next {S : MSt} (h : Rch S) {q : MRq} (hq : q.time < 18446744073709551616) : Rch (S.next q) := by
  refine ⟨Nat.mod_lt _ (by decide), by show (tR S.T S.xs q).2.1.length = 8; rw [tR_len, h.len], h.late.next S.xs q, ?_, ?_, ?_, ?_, ?_⟩
  · show ∀ p ∈ (tR S.T S.xs q).2.1, _
    cases hm : mayQ q with
    | false => rw [tR_no hm]; exact h.good
    | true =>
      by_cases hl : (lastOf S.T q.client).1 < q.time
      · rw [tR_new hm hl]
        intro p hp
        rcases List.mem_or_eq_of_mem_set hp with hp | rfl
        · exact h.good p hp
        · have := do_rep h.small q.op
          exact ⟨hq, Int.natCast_nonneg _, by show ((doR S.xs q.op).1.1 : Int) ≤ 20; omega, this.2⟩
      · rw [(tR_old (T := S.T) (xs := S.xs) (q := q) fun _ => by omega).2]
        exact h.good
  · show (tR S.T S.xs q).2.2.length ≤ 64
    rcases tR_xs S.T S.xs q with e | e <;> rw [e]
    · exact h.xlen
    · exact do_len h.xlen h.rise q.op
  · show Rise (tR S.T S.xs q).2.2
    rcases tR_xs S.T S.xs q with e | e <;> rw [e]
    · exact h.rise
    · exact do_rise h.rise q.op
  · show Keys (tR S.T S.xs q).2.2
    rcases tR_xs S.T S.xs q with e | e <;> rw [e]
    · exact h.keys
    · exact h.keys.do q.op
  · show ∀ p ∈ (tR S.T S.xs q).2.2, p.2.size ≤ 128
    rcases tR_xs S.T S.xs q with e | e <;> rw [e]
    · exact h.small
    · exact do_small h.small q.op
theorem flat_len {A : Type} (f : A → List UInt8) (m : Nat) : ∀ (l : List A), (∀ p ∈ l, (f p).length ≤ m) → (l.flatMap f).length ≤ m * l.length
  | [], _ => by simp
  | p :: l, h => by
    have h1 := flat_len f m l fun q hq => h q (List.mem_cons_of_mem _ hq)
    have h2 := h p (List.mem_cons_self ..)
    rw [List.flatMap_cons, List.length_append, List.length_cons, Nat.mul_succ]
    omega
theorem Rch.size {S : MSt} (h : Rch S) : (stB S).length ≤ 13000 ∧ 208 ≤ (stB S).length := by
  have h1 := flat_len lstB 152 S.T fun p hp => by
    have := (h.good p hp).2.2.2
    simp [lstB, w8_length, tB_length]; omega
  have h2 := flat_len itB 176 S.xs fun p hp => by
    have a := h.keys p hp
    have b := h.small p hp
    simp only [mayK, Bool.and_eq_true, decide_eq_true_eq] at a
    simp [itB, tB_length]; omega
  have h3 : 24 * S.T.length ≤ (S.T.flatMap lstB).length := by
    have : ∀ (l : List Lst), 24 * l.length ≤ (l.flatMap lstB).length := fun l => by
      induction l with
      | nil => simp
      | cons p l ih =>
        have e : (lstB p).length = 24 + p.2.2.size := by simp [lstB, w8_length, tB_length]; omega
        rw [List.flatMap_cons, List.length_append, List.length_cons, e]
        omega
    exact this S.T
  have hl := h.len
  have hx := h.xlen
  simp only [stB, List.length_append, w8_length]
  rw [hl] at h1 h3
  have : 176 * S.xs.length ≤ 11264 := by omega
  omega
open Go.RowKit
set_option maxRecDepth 100000

theorem Fr.join {w W W' : World} {os : List Thing} {o : Thing} (H : Fr w W os) (h : Fr W W' [o]) : Fr w W' (o :: os) :=
  H.add h.bel h.hd (h.all o (List.mem_cons_self ..)).2.1 h.ge
theorem of_fr {w W : World} {os : List Thing} (H : Fr w W os) {A : Option Addr} {b : List UInt8} {c : Nat} (hB : Bs W A b c) : Calls Tryd.prog 11 #[.slice A b.length c] W fun E W' =>
    (ofR b = none → E = .returned (.tuple #[.pointer none, .int .i64 5]) ∧ Fr w W' os) ∧ (∀ S, ofR b = some S → ∃ s t g r c', E = .returned (.tuple #[.pointer (some ⟨s, 0, none⟩), .int .i64 0]) ∧ Fr w W' (stT s t g r c' S :: os)) :=
  (of_state H.varsW H.ksW hB).mono fun _ _ ⟨hb, h1, h2⟩ => ⟨fun hn => ⟨h1 hn, H.below hb⟩, fun S hS => let ⟨s, t, g, r, c', he, h⟩ := h2 S hS; ⟨s, t, g, r, c', he, H.join h⟩⟩
theorem bs_of_own {W : World} {B c : Nat} {A : Option Addr} {l : List UInt8} (h : W.ownsRow B 5 1 (.slice A l.length c) l.length (Sh.u8s l)) : Bs W A l c := by
  refine ⟨(Sh.Rd.of_own h).mono fun _ _ _ => trivial, ?_⟩
  obtain ⟨A', c', e, hs⟩ := Sh.own_shape h
  injection e with e1 e2 e3
  rw [e1, e3]
  exact hs
theorem Bs.below {w w' : World} {A : Option Addr} {l : List UInt8} {c : Nat} (h : Bs w A l c) (hb : Below w.heap.size w w') : Bs w' A l c := ⟨h.rd.below hb fun _ hb _ => hb, h.sl⟩
theorem bytes_fr {w W : World} {os : List Thing} {s t g : Nat} {r : Option Nat} {c : Nat} {S : MSt} (H : Fr w W (stT s t g r c S :: os)) (hl : (stB S).length < 60000000000000) :
    Calls Tryd.prog 8 #[.pointer (some ⟨s, 0, none⟩)] W fun E W' => ∃ A c', E = .returned (.slice A (stB S).length c') ∧ Bs W' A (stB S) c' ∧ Fr w W' (stT s t g r c S :: os) :=
  (bytes_any H.hd H.ksW hl).mono fun _ _ ⟨A, c', he, ho, hb⟩ => ⟨A, c', he, bs_of_own ho, H.below hb⟩
def q1 : MRq := ⟨1, 1, ⟨2, sA, s1, sE, sE, 0⟩, List.replicate 32 (.int .u8 0)⟩
def T1 : List Lst := zT.set 0 (1, (0, sE))
theorem x1' : tR zT [] q1 = (((0, sE), true), T1, [(sA, s1)]) := by decide +kernel
theorem x2' : tLast T1 1 = (1, (0, sE)) := by decide +kernel
theorem zero_bytes : stB S0 = List.replicate 208 0 := by decide +kernel
set_option maxHeartbeats 4000000 in
theorem works_any {w : World} (hv : Vars w) (hk : Sh.KIs w) : Calls Tryd.prog 5 #[] w fun E w' => E = .returned (.bool true) ∧ Below w.heap.size w w' := by
  have HN := Lib.hid (new_fr (Fr.start hv hk))
  have HB : Hid (∀ W s t g, Fr w W [stT s t g none 0 S0] → Calls Tryd.prog 8 #[.pointer (some ⟨s, 0, none⟩)] W fun E W' => ∃ b o c', E = .returned (.slice (some ⟨b, o, none⟩) 208 c') ∧ b < W'.heap.size ∧ (∀ j, j < 208 → W'.cell? ⟨b, o + j, none⟩ = some (.int .u8 0)) ∧ Bs W' (some ⟨b, o, none⟩) (List.replicate 208 0) c' ∧ Fr w W' [stT s t g none 0 S0]) := Lib.hid fun W s t g H => by
    have hl : (stB S0).length = 208 := by rw [zero_bytes]; simp
    refine (bytes_fr H (by rw [hl]; decide)).mono fun E W' hx => ?_
    obtain ⟨A, c', he, hB, hF⟩ := hx
    rw [hl] at he
    rw [zero_bytes] at hB
    obtain ⟨b, o, rfl, hb, _, hc⟩ := hB.rd.2 (by simp)
    exact ⟨b, o, c', he, hb, fun j hj => hc j 0 (by rw [List.getElem?_replicate, if_pos hj]), hB, hF⟩
  have HO1 : Hid (∀ W os A c', Fr w W os → Bs W A (List.replicate 208 0) c' → Calls Tryd.prog 11 #[.slice A 208 c'] W fun E W' => ∃ s t g r c, E = .returned (.tuple #[.pointer (some ⟨s, 0, none⟩), .int .i64 0]) ∧ Fr w W' (stT s t g r c S0 :: os)) := Lib.hid fun W os A c' H hB => by
    have h := of_fr H hB
    rw [List.length_replicate] at h
    exact h.mono fun E W' hx => hx.2 S0 (by rw [← zero_bytes]; exact of_stB Rch.zero.good')
  have HO2 : Hid (∀ W os, Fr w W os → Calls Tryd.prog 11 #[.slice none 0 0] W fun E W' => E = .returned (.tuple #[.pointer none, .int .i64 5]) ∧ Fr w W' os) := Lib.hid fun W os H =>
    (of_fr H (bs_nil W)).mono fun E W' hx => hx.1 (by
      have := of_less Rch.zero.good' (k := 0) (by have := Rch.zero.size; omega)
      rwa [List.take_zero] at this)
  have HD : Hid (∀ W s t g os, Fr w W (stT s t g none 0 S0 :: os) → Calls Tryd.prog 7 #[.pointer (some ⟨s, 0, none⟩), .agg (rqC q1).toArray] W fun E W' => ∃ r c, E = .returned (.tuple #[.agg #[.int .i64 0, .string ⟨#[]⟩], .bool true]) ∧ Fr w W' (stT s t g r c ⟨1, T1, [(sA, s1)]⟩ :: os)) := Lib.hid fun W s t g os H => by
    have h := do_fr H q1 rfl
    have e : S0.next q1 = ⟨1, T1, [(sA, s1)]⟩ := by
      show (⟨1, (tR zT [] q1).2.1, (tR zT [] q1).2.2⟩ : MSt) = _
      rw [x1']
    rw [e, show tR S0.T S0.xs q1 = (((0, sE), true), T1, [(sA, s1)]) from x1'] at h
    exact h.mono fun E W' ⟨he, r, c, hf⟩ => ⟨r, c, he, hf⟩
  clear hv hk
  go_enter Tryd.func5, Tryd.ntmps5
  go_wp2_with (go_at_call 6; refine HN.out.mono ?_)
  rintro E w1 ⟨s, t, g, rfl, h1⟩
  have H1 := Lib.hid h1
  clear h1 HN
  go_wp2_with (go_at_call 8; refine (HB.out _ _ _ _ H1.out).mono ?_)
  rintro E w2 ⟨b, o, c2, rfl, hlt, hc, hB, h2⟩
  have H2 := Lib.hid h2
  have HC := Lib.hid hc
  have HBs := Lib.hid hB
  clear h2 hc hB HB H1
  go_wp2_with fail
  go_loopw [3] (fun v wr => ∃ j : Nat, j ≤ 208 ∧ v = .int .i64 (j : Int) ∧ wr = w2) (fun v _ => 208 - (intOf v).toNat)
  case atStart => exact ⟨0, by omega, rfl, rfl⟩
  case round =>
    obtain ⟨j, hj, rfl, rfl⟩ := hrel
    by_cases hjj : j < 208
    · have cj := HC.out j hjj
      have hjj' : (j : Int) < 208 := by omega
      go_wp2_with fail
      go_roundw
      case measure => simp [intOf] <;> omega
      case rel => exact ⟨j + 1, by omega, by go_num, trivial⟩
    · obtain rfl : j = 208 := by omega
      clear hlt HC
      go_wp2_with (go_at_call 11; refine (HO1.out _ _ _ _ H2.out HBs.out).mono ?_)
      rintro E w3 ⟨s', t', g', r', c', rfl, h3⟩
      have H3 := Lib.hid h3
      clear h3 HO1 H2 HBs
      go_wp2_with (go_at_call 11
                   refine (HO2.out _ _ H3.out).mono ?_
                   rintro E w4 ⟨rfl, h4⟩
                   have H4 := Lib.hid h4
                   clear h4 HO2 H3)
      refine (HD.out _ _ _ _ _ H4.out.swap).mono ?_
      rintro E w5 ⟨r5, c5, rfl, h5⟩
      have H5 := Lib.hid (h5.box #[.int .i64 0, .string ⟨#[]⟩] 29)
      clear h5 HD H4
      have hC1 := Lib.hid (count_any H5.out.hd3)
      have hC2 := Lib.hid (count_any H5.out.hd2)
      have HI := Lib.hid (items_any H5.out.hd2)
      have HLa : Hid (∀ W, Fr w W [blkT w5.heap.size #[.int .i64 0, .string ⟨#[]⟩] 29, stT s t g r5 c5 ⟨1, T1, [(sA, s1)]⟩, stT s' t' g' r' c' S0] → Calls Tryd.prog 13 #[.pointer (some ⟨s, 0, none⟩), .int .i64 1] W fun E w' => E = .returned (.agg #[.int .u64 1, .int .i64 0, .string ⟨#[]⟩]) ∧ Below W.heap.size W w') := Lib.hid fun W H => by
        have := slast_any H.hd2 1
        rw [show tLast (⟨1, T1, [(sA, s1)]⟩ : MSt).T 1 = (1, (0, sE)) from x2'] at this
        exact this
      have fl : ∀ w : World, (Instr.field 48 (.agg #[.int .u64 1, .int .i64 0, .string ⟨#[]⟩]) 0).run Tryd.prog w = .ok (.int .u64 1) w := fun w => by kernel_rfl
      go_wp2_with (first
        | (go_at_call 9; refine hC1.out.mono ?_; rintro E w6 ⟨rfl, rfl⟩)
        | (go_at_call 9; refine hC2.out.mono ?_; rintro E w6 ⟨rfl, rfl⟩)
        | (go_at_call 12; refine HI.out.mono ?_; rintro E w7 ⟨r7, c7, rfl, _, _, b7⟩; have H7 := Lib.hid (H5.out.below b7); clear b7)
        | (go_at_call 13; refine (HLa.out _ H7.out).mono ?_; rintro E w8 ⟨rfl, b8⟩; have H8 := Lib.hid (H7.out.below b8); clear b8))
      go_ret
      exact ⟨rfl, H8.out.bel⟩
end Go.Proofs.YtpageppjngbnpaaDoor
