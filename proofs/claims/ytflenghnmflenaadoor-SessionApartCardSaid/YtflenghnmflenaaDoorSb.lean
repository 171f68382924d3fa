/-
  What is proved: how a table of what clients were answered lies in memory; requests and lists of what was answered; New, whether a number is a client. Conditions as stated.
-/
import Derived.Test.YtflenghnmflenaaDoorSa
import Derived.Test.YtflenghnmflenaaDoorLu
namespace Go.Proofs.YtflenghnmflenaaDoor
open Go.RowKit
set_option maxRecDepth 100000

/-! ### cells -/
def lrC (p : Lrp) : List Value := [.int .i64 p.1, .string p.2]
def lsC (p : Lst) : List Value := [.int .u64 (p.1 : Int), .int .i64 (p.2.1 : Int), .string p.2.2]
def tbC (T : List Lst) : List Value := T.flatMap lsC
theorem tbC_length : ∀ T : List Lst, (tbC T).length = T.length * 3
  | [] => rfl
  | p :: T => by
    have := tbC_length T
    simp only [tbC, List.flatMap_cons, List.length_append, List.length_cons] at this ⊢
    rw [this]
    simp only [lsC, List.length_cons, List.length_nil]
    omega
theorem tbC_app (a b : List Lst) : tbC (a ++ b) = tbC a ++ tbC b := by simp [tbC]
theorem tbC_one (T : List Lst) : ∀ v ∈ tbC T, v.oneCell' = true := by
  intro v hv
  simp only [tbC, List.mem_flatMap] at hv
  obtain ⟨p, _, hp⟩ := hv
  simp only [lsC, List.mem_cons, List.mem_nil_iff, or_false] at hp
  rcases hp with rfl | rfl | rfl <;> rfl
theorem lsC_one (p : Lst) : ∀ v ∈ lsC p, v.oneCell' = true := by
  intro v hp
  simp only [lsC, List.mem_cons, List.mem_nil_iff, or_false] at hp
  rcases hp with rfl | rfl | rfl <;> rfl
theorem tbC_at : ∀ {T : List Lst} {j : Nat} {p : Lst}, T[j]? = some p → ∀ i v, (lsC p)[i]? = some v → (tbC T)[j * 3 + i]? = some v
  | [], j, p, h => by simp at h
  | q :: T, 0, p, h => by
    simp at h
    subst h
    intro i v hv
    show (lsC q ++ tbC T)[0 * 3 + i]? = some v
    rw [List.getElem?_append_left (by have := (List.getElem?_eq_some_iff.1 hv).1; omega)]
    simpa using hv
  | q :: T, j + 1, p, h => by
    intro i v hv
    simp at h
    show (lsC q ++ tbC T)[(j + 1) * 3 + i]? = some v
    rw [List.getElem?_append_right (by simp [lsC]; omega)]
    have : (j + 1) * 3 + i - (lsC q).length = j * 3 + i := by simp [lsC]; omega
    rw [this]
    exact tbC_at h i v hv
theorem tbC_set : ∀ {T : List Lst} {j : Nat} (_ : j < T.length) (a : Nat) (b : Int) (s : ByteArray), (((tbC T).set (j * 3) (.int .u64 (a : Int))).set (j * 3 + 1) (.int .i64 (b : Int))).set (j * 3 + 2) (.string s) = tbC (T.set j (a, (b, s)))
  | [], j, h, _, _, _ => by simp at h
  | q :: T, 0, h, a, b, s => rfl
  | q :: T, j + 1, h, a, b, s => by
    have e : tbC (q :: T) = .int .u64 (q.1 : Int) :: .int .i64 (q.2.1 : Int) :: .string q.2.2 :: tbC T := rfl
    have e2 : tbC ((q :: T).set (j + 1) (a, (b, s))) = .int .u64 (q.1 : Int) :: .int .i64 (q.2.1 : Int) :: .string q.2.2 :: tbC (T.set j (a, (b, s))) := rfl
    rw [e, e2, show (j + 1) * 3 = j * 3 + 3 from by omega]
    simp only [List.set_cons_succ, Nat.add_assoc]
    rw [← tbC_set (by simpa using h) a b s]
theorem tbC_take : ∀ (T : List Lst) (i : Nat), (tbC T).take (i * 3) = tbC (T.take i)
  | [], i => by simp [tbC]
  | p :: T, 0 => by simp [tbC]
  | p :: T, i + 1 => by
    show (lsC p ++ tbC T).take ((i + 1) * 3) = lsC p ++ tbC (T.take i)
    rw [List.take_append, List.take_of_length_le (by simp [lsC]; omega)]
    congr 1
    rw [show (i + 1) * 3 - (lsC p).length = i * 3 from by simp [lsC]; omega]
    exact tbC_take T i

/-- The table lies in this block. -/
structure Tbl (w : World) (t : Nat) (T : List Lst) : Prop where
  top : w.heap[t]? = some (.cells (tbC T).toArray 73 (0, 0))
  len : T.length = 8
theorem Tbl.lt {w : World} {t : Nat} {T : List Lst} (h : Tbl w t T) : t < w.heap.size := (Array.getElem?_eq_some_iff.1 h.top).1
theorem Tbl.kept {w w' : World} {t : Nat} {T : List Lst} (h : Tbl w t T) (hk : w'.heap[t]? = w.heap[t]?) : Tbl w' t T := ⟨hk.trans h.top, h.len⟩
theorem Tbl.below {w w' : World} {t : Nat} {T : List Lst} (h : Tbl w t T) (hb : Below w.heap.size w w') : Tbl w' t T := h.kept (hb.block _ h.lt)
theorem Tbl.cell {w : World} {t : Nat} {T : List Lst} (h : Tbl w t T) {j : Nat} {p : Lst} (hp : T[j]? = some p) (i : Nat) (v : Value) (hv : (lsC p)[i]? = some v) : w.cell? ⟨t, j * 3 + i, none⟩ = some v :=
  block_cell h.top _ _ (tbC_at hp i v hv)
theorem Tbl.range {w : World} {t : Nat} {T : List Lst} (h : Tbl w t T) {j : Nat} {p : Lst} (hp : T[j]? = some p) : w.rangeAt t (j * 3) (lsC p) := fun i v hv => h.cell hp i v hv
theorem Tbl.free {w : World} {t : Nat} {T : List Lst} (h : Tbl w t T) (k : Nat) : w.frozen? ⟨t, k, none⟩ = false := free_block h.top k
theorem Tbl.put {w : World} {t : Nat} {T : List Lst} (h : Tbl w t T) {j : Nat} (hj : j < 8) (a : Nat) (b : Int) (s : ByteArray) :
    Tbl (((w.setCell ⟨t, j * 3, none⟩ (.int .u64 (a : Int))).setCell ⟨t, j * 3 + 1, none⟩ (.int .i64 (b : Int))).setCell ⟨t, j * 3 + 2, none⟩ (.string s)) t (T.set j (a, (b, s))) :=
  ⟨by rw [← tbC_set (by rw [h.len]; exact hj) a b s]; exact heap_set (heap_set (heap_set h.top _) _) _, by rw [List.length_set, h.len]⟩
theorem last_at {T : List Lst} (h : T.length = 8) {j : Nat} (hj : j < 8) : ∃ p, T[j]? = some p ∧ lastOf T ((j : Int) + 1) = p := by
  refine ⟨T[j]'(by omega), List.getElem?_eq_getElem (by omega), ?_⟩
  unfold lastOf
  rw [List.getD_eq_getElem?_getD, show ((j : Int) + 1).toNat - 1 = j from by omega, List.getElem?_eq_getElem (by omega)]
  rfl
/-- What was answered lies at the address, one behind the other. -/
def Lss (w : World) (A : Option Addr) (T : List Lst) : Prop :=
  0 < T.length → ∃ b o, A = some ⟨b, o, none⟩ ∧ b < w.heap.size ∧ ∀ j p, T[j]? = some p → w.rangeAt b (o + j * 3) (lsC p)
theorem Lss.below {w w' : World} {A : Option Addr} {T : List Lst} (h : Lss w A T) (hb : Below w.heap.size w w') : Lss w' A T := fun hn =>
  let ⟨b, o, hA, hl, hc⟩ := h hn
  ⟨b, o, hA, Nat.lt_of_lt_of_le hl hb.size, fun j p hp k v hv => (hb.cell (p := ⟨b, o + j * 3 + k, none⟩) hl).trans (hc j p hp k v hv)⟩
theorem Lss.cell {w : World} {b o : Nat} {T : List Lst} (hc : ∀ j p, T[j]? = some p → w.rangeAt b (o + j * 3) (lsC p)) : ∀ j u, (tbC T)[j]? = some u → w.cell? ⟨b, o + j, none⟩ = some u := fun j u hj => by
  have hl := (List.getElem?_eq_some_iff.1 hj).1
  rw [tbC_length] at hl
  have hq : j / 3 < T.length := by omega
  have hp : T[j / 3]? = some T[j / 3] := List.getElem?_eq_getElem hq
  have hi : j % 3 < (lsC T[j / 3]).length := by simp [lsC]; omega
  have h1 := tbC_at hp (j % 3) _ (List.getElem?_eq_getElem hi)
  rw [show j / 3 * 3 + j % 3 = j from by omega, hj] at h1
  have h2 := hc _ _ hp (j % 3) _ (List.getElem?_eq_getElem hi)
  rw [show o + j / 3 * 3 + j % 3 = o + j from by omega] at h2
  rw [h2, Option.some.inj h1]
theorem Lss.of_block {w : World} {b : Nat} {T : List Lst} {R : List Value} {ty : TypeId} (h : w.heap[b]? = some (.cells (tbC T ++ R).toArray ty (0, 0))) : Lss w (some ⟨b, 0, none⟩) T := fun _ =>
  ⟨b, 0, rfl, (Array.getElem?_eq_some_iff.1 h).1, fun j p hp k v hv => by
    rw [Nat.zero_add]
    refine block_cell h _ _ ?_
    have := tbC_at hp k v hv
    rw [List.getElem?_append_left (List.getElem?_eq_some_iff.1 this).1]
    exact this⟩

/-! ### requests -/
def rqC (q : MRq) : List Value := .int .i64 q.client :: .int .u64 (q.time : Int) :: (opC q.op ++ q.tag)
theorem rqC_length (q : MRq) : (rqC q).length = 8 + q.tag.length := by simp [rqC, opC]; omega
theorem rq_0 (q : MRq) : (rqC q)[0]? = some (.int .i64 q.client) := rfl
theorem rq_1 (q : MRq) : (rqC q)[1]? = some (.int .u64 (q.time : Int)) := rfl
theorem rq_op (q : MRq) : ∀ j v, (opC q.op)[j]? = some v → (rqC q)[2 + j]? = some v := fun j v hv => by
  rw [rqC, show 2 + j = j + 1 + 1 from by omega, List.getElem?_cons_succ, List.getElem?_cons_succ, List.getElem?_append_left (List.getElem?_eq_some_iff.1 hv).1]
  exact hv
/-- Requests lie at the address, one behind the other. -/
structure Rqs (w : World) (A : Option Addr) (qs : List MRq) : Prop where
  at' : 0 < qs.length → ∃ b o, A = some ⟨b, o, none⟩ ∧ b < w.heap.size ∧ ∀ j q, qs[j]? = some q → w.rangeAt b (o + j * 40) (rqC q)
  tag : ∀ q ∈ qs, q.tag.length = 32
  num : ∀ q ∈ qs, q.time < 18446744073709551616 ∧ q.op.amount < 18446744073709551616 ∧ (Lit.int .i64 q.client).wf = true
theorem Rqs.below {w w' : World} {A : Option Addr} {qs : List MRq} (h : Rqs w A qs) (hb : Below w.heap.size w w') : Rqs w' A qs := ⟨fun hn =>
  let ⟨b, o, hA, hl, hc⟩ := h.at' hn
  ⟨b, o, hA, Nat.lt_of_lt_of_le hl hb.size, fun j p hp k v hv => (hb.cell (p := ⟨b, o + j * 40 + k, none⟩) hl).trans (hc j p hp k v hv)⟩, h.tag, h.num⟩

theorem Tryd.is52 : (Tryd.prog.info? 52).map (·.size) = some 40 := by kernel_rfl
theorem Tryd.is34 : (Tryd.prog.info? 34).map (·.size) = some 3 := by kernel_rfl
theorem Tryd.info34 : (Tryd.prog.info? 34).map (fun i => (i.zero, i.size, i.bytes)) = some (some (.agg #[.int .u64 0, .int .i64 0, .string ByteArray.empty]), 3, 32) := by kernel_rfl

/-! ### New, isClient -/
theorem client_any (c : Int) (w : World) : Calls Tryd.prog 25 #[.int .i64 c] w fun E w' => E = .returned (.bool (isCl c)) ∧ w = w' := by
  by_cases h1 : 1 ≤ c
  · have h1' : ¬ (c < 1) := by omega
    by_cases h2 : c ≤ 8
    · go_enter Tryd.func25, Tryd.ntmps25
      go_wp2_with fail
      go_ret
      exact ⟨by simp [isCl, h1, h2] <;> omega, rfl⟩
    · go_enter Tryd.func25, Tryd.ntmps25
      go_wp2_with fail
      go_ret
      exact ⟨by simp [isCl, h1, h2] <;> omega, rfl⟩
  · go_enter Tryd.func25, Tryd.ntmps25
    go_wp2_with fail
    go_ret
    exact ⟨by simp [isCl] <;> omega, rfl⟩
def zT : List Lst := List.replicate 8 zL
theorem tnew_any (w : World) : Calls Tryd.prog 12 #[] w fun E w' => E = .returned (.pointer (some ⟨w.heap.size, 0, none⟩)) ∧ Tbl w' w.heap.size zT ∧ Below w.heap.size w w' := by
  have HF : Hid (Tbl (w.alloc (.cells (tbC zT).toArray 73)) w.heap.size zT ∧ Below w.heap.size w (w.alloc (.cells (tbC zT).toArray 73))) := Lib.hid ⟨⟨heap_alloc_new w _, rfl⟩, (Below.refl _ _).alloc (Nat.le_refl _) _⟩
  go_enter Tryd.func12, Tryd.ntmps12
  go_wp2_with fail
  go_ret
  exact ⟨rfl, HF.out⟩
end Go.Proofs.YtflenghnmflenaaDoor
