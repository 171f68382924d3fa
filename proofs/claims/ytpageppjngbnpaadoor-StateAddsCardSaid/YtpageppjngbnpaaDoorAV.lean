/-
  What is proved: Of of a table. Conditions as stated.
  What is proved: the document's own table: what lies in memory while it is asked. Conditions as stated.
  What is proved: the document's own Do of a table. Conditions as stated.
  What is proved: the document's own Do of a table, done; of any request. Conditions as stated.
  What is proved: whether lists are the same as the document's own table (same); its Of. Conditions as stated.
  What is proved: a table and its ledger, and the document's own, side by side; an append of what came in. Conditions as stated.
-/
import Derived.Test.YtpageppjngbnpaaDoorAU
namespace Go.Proofs.YtpageppjngbnpaaDoor
open Go.RowKit
set_option maxRecDepth 100000

def earlyT (p : Lst) : Bool := decide (p.1 = 0) && !decide (p.2 = ((0 : Int), ByteArray.empty))
def Late (T : List Lst) : Prop := ∀ p ∈ T, earlyT p = false
theorem late_zT : Late zT := fun p hp => by rw [(List.mem_replicate.1 hp).2]; decide +kernel
theorem Late.next {T : List Lst} (h : Late T) (xs : List It) (q : MRq) : Late (tR T xs q).2.1 := by
  cases hm : mayQ q with
  | false => rw [tR_no hm]; exact h
  | true =>
    by_cases hl : (lastOf T q.client).1 < q.time
    · rw [tR_new hm hl]
      intro p hp
      rcases List.mem_or_eq_of_mem_set hp with hp | rfl
      · exact h p hp
      · have := (mayQ_iff.1 hm).2
        rw [earlyT, decide_eq_false this, Bool.false_and]
    · rw [(tR_old (T := T) (xs := xs) (q := q) fun _ => by omega).2]
      exact h
theorem early_any (p : Lst) (w : World) : Calls Tryd.prog 35 #[.agg (lsC p).toArray] w fun E w' => E = .returned (.bool (earlyT p)) ∧ Below w.heap.size w w' := by
  obtain ⟨a, e, v⟩ := p
  have HB : Hid (∀ x, Below w.heap.size w (w.alloc (.cells x 48))) := Lib.hid fun x => (Below.refl _ _).alloc (Nat.le_refl _) _
  have g32 := Tryd.guard29
  by_cases h0 : a = 0
  · subst h0
    have e32 : ∀ w, (Op.equalIn 10000 29 (.agg #[.int .i64 e, .string v]) (.agg #[.int .i64 0, .string ⟨#[]⟩])).run Tryd.prog w = .ok (decide ((e, v) = ((0 : Int), ByteArray.empty))) w := fun w => eq_lrp_of (d := 9998) (e, v) ((0 : Int), ByteArray.empty) (by simp) w
    have HE : Hid (earlyT (0, e, v) = !decide ((e, v) = ((0 : Int), ByteArray.empty))) := Lib.hid (by simp [earlyT])
    rw [HE.out]
    obtain ⟨z, hzz⟩ : ∃ z, z = decide ((e, v) = ((0 : Int), ByteArray.empty)) := ⟨_, rfl⟩
    rw [← hzz] at e32 ⊢
    clear HE hzz
    show Calls Tryd.prog 35 #[.agg #[.int .u64 0, .int .i64 e, .string v]] w _
    go_enter Tryd.func35, Tryd.ntmps35
    go_wp2_with fail
    go_ret
    exact ⟨rfl, HB.out _⟩
  · have HE : Hid (earlyT (a, e, v) = false) := Lib.hid (by rw [earlyT, decide_eq_false h0, Bool.false_and])
    have hz : ¬ ((a : Int) = 0) := by omega
    have hz2 : ((a : Int) == 0) = false := beq_eq_false_iff_ne.2 hz
    have hz3 : (a == 0) = false := beq_eq_false_iff_ne.2 h0
    have hz4 : decide (a = 0) = false := decide_eq_false h0
    rw [HE.out]
    clear HE
    show Calls Tryd.prog 35 #[.agg #[.int .u64 (a : Int), .int .i64 e, .string v]] w _
    go_enter Tryd.func35, Tryd.ntmps35
    go_wp2_with fail
    go_ret
    exact ⟨rfl, HB.out _⟩
set_option maxHeartbeats 4000000 in
theorem index_any (A : Option Addr) (c : Nat) (T : List Lst) (w : World) (h : Lss w A T) (hn : T.length ≤ 140737488355328) :
    Calls Tryd.prog 43 #[.slice A T.length c, .func (.func 35) #[] #[]] w fun E w' => (∃ x : Int, E = .returned (.int .i64 x) ∧ (0 ≤ x ↔ ¬ Late T)) ∧ Below w.heap.size w w' := by
  have HX := Lib.hid h
  obtain ⟨n, hnn⟩ : ∃ n, n = T.length := ⟨_, rfl⟩
  have HL := Lib.hid hnn
  rw [← hnn] at hn ⊢
  clear h hnn
  have HS : Hid (Below w.heap.size w w ∧ Late (T.take 0)) := Lib.hid ⟨Below.refl _ _, by intro p hp; simp at hp⟩
  go_enter Tryd.func43, Tryd.ntmps43
  go_wp2_with fail
  go_loopw [8] (fun v8 wr => ∃ (j : Nat), j ≤ n ∧ v8 = .int .i64 (j : Int) ∧ Hid (Below w.heap.size w wr ∧ Late (T.take j))) (fun v8 _ => n - (intOf v8).toNat)
  case atStart => exact ⟨0, by omega, rfl, HS⟩
  case round =>
    obtain ⟨j, hj, rfl, HR⟩ := hrel
    by_cases hjj : j < n
    · obtain ⟨bb, o, rfl, hbl, hc⟩ := HX.out (by rw [← HL.out]; omega)
      obtain ⟨p, hp⟩ : ∃ p, T[j]? = some p := ⟨_, List.getElem?_eq_getElem (by rw [← HL.out]; exact hjj)⟩
      have hr : wr.rangeAt bb (o + j * 3) (lsC p) := fun k v hv => (HR.out.1.cell (p := ⟨bb, o + j * 3 + k, none⟩) hbl).trans (hc j p hp k v hv)
      have m0 : wr.cell? ⟨bb, o + j * 3, none⟩ = some (.int .u64 (p.1 : Int)) := hr 0 _ rfl
      have m1 : wr.cell? ⟨bb, o + j * 3 + 1, none⟩ = some (.int .i64 p.2.1) := hr 1 _ rfl
      have m2 : wr.cell? ⟨bb, o + j * 3 + 2, none⟩ = some (.string p.2.2) := hr 2 _ rfl
      have HT : Hid (T.take (j + 1) = T.take j ++ [p]) := Lib.hid (by rw [List.take_add_one, hp]; rfl)
      have HM := Lib.hid (List.mem_of_getElem? hp)
      have hdec : decide ((j : Int) < (n : Int)) = true := decide_eq_true (by omega)
      have hj0 : (0 : Int) ≤ (j : Int) := by omega
      have hjn : (j : Int) < (n : Int) := by omega
      have htn : ((j : Int)).toNat = j := by omega
      have hw1 : IntKind.i64.wrap ((j : Int) + 1) = (j : Int) + 1 := by rw [IntKind.wrap_i64]; omega
      obtain ⟨z, hz⟩ : ∃ z, z = earlyT p := ⟨_, rfl⟩
      have HZ := Lib.hid hz
      have HC : Hid (∀ W, Calls Tryd.prog 35 #[.agg #[.int .u64 (p.1 : Int), .int .i64 p.2.1, .string p.2.2]] W fun E w' => E = .returned (.bool z) ∧ Below W.heap.size W w') := Lib.hid fun W => by rw [hz]; exact early_any p W
      clear hr hc hp hz
      cases z with
      | false =>
        go_wp2_with (go_at_call 35; refine (HC.out _).mono ?_; rintro E w1 ⟨rfl, b1⟩)
        go_roundw
        case measure => simp [intOf] <;> omega
        case rel => exact ⟨j + 1, by omega, by go_num, Lib.hid ⟨HR.out.1.trans (b1.mono HR.out.1.size), by
          rw [HT.out]
          intro x hx
          rcases List.mem_append.1 hx with hx | hx
          · exact HR.out.2 x hx
          · rw [List.mem_singleton.1 hx]; exact HZ.out.symm⟩⟩
      | true =>
        go_wp2_with (go_at_call 35; refine (HC.out _).mono ?_; rintro E w1 ⟨rfl, b1⟩)
        go_ret
        exact ⟨⟨_, rfl, ⟨fun _ hl => (by have := hl p HM.out; rw [← HZ.out] at this; cases this), fun _ => by omega⟩⟩, HR.out.1.trans (b1.mono HR.out.1.size)⟩
    · obtain rfl : j = n := by omega
      have hjn : ¬ ((j : Int) < (j : Int)) := by omega
      have hl : Late T := by have := HR.out.2; rwa [List.take_of_length_le (by rw [← HL.out]; exact Nat.le_refl _)] at this
      have HLate := Lib.hid hl
      clear hl
      go_wp2_with fail
      go_ret
      exact ⟨⟨_, rfl, ⟨fun h => absurd h (by decide), fun h => absurd HLate.out h⟩⟩, HR.out.1⟩
open Classical in
theorem contains_any (A : Option Addr) (c : Nat) (T : List Lst) (w : World) (h : Lss w A T) (hn : T.length ≤ 140737488355328) :
    Calls Tryd.prog 34 #[.slice A T.length c, .func (.func 35) #[] #[]] w fun E w' => E = .returned (.bool (decide (¬ Late T))) ∧ Below w.heap.size w w' := by
  have HC := Lib.hid (index_any A c T w h hn)
  obtain ⟨z, hz⟩ : ∃ z : Bool, z = decide (¬ Late T) := ⟨_, rfl⟩
  have HZ : Hid (z = true ↔ ¬ Late T) := Lib.hid (by rw [hz]; simp)
  rw [← hz]
  obtain ⟨n, hnn⟩ : ∃ n, n = T.length := ⟨_, rfl⟩
  rw [← hnn] at HC ⊢
  clear h hn hz hnn
  go_enter Tryd.func34, Tryd.ntmps34
  go_wp2_with (go_at_call 43; refine HC.out.mono ?_)
  rintro E w1 ⟨⟨x, rfl, hx⟩, b1⟩
  have HX : Hid ((0 ≤ x ↔ z = true) ∧ Below w.heap.size w w1) := Lib.hid ⟨hx.trans HZ.out.symm, b1⟩
  have hd : decide ((0 : Int) ≤ x) = z := by rw [Bool.eq_iff_iff]; simpa using HX.out.1
  clear hx b1 HC
  go_wp2_with fail
  go_ret
  refine ⟨?_, HX.out.2⟩
  first | rfl | (rw [← hd]; rfl) | simp [hd]
/-! ### Of -/
theorem Tryd.is69 : (Tryd.prog.info? 69).map (·.size) = some 24 := by kernel_rfl
theorem build_tbl (T : List Lst) (hT : T.length = 8) (w : World) : (Instr.build 71 #[(0, .agg (tbC T).toArray)]).run Tryd.prog w = .ok (.agg (tbC T).toArray) w := by
  have hl : (tbC T).length = 24 := by rw [tbC_length, hT]
  have m1 := fill_mid [] (tbC zT) [] (tbC T) (by rw [hl, tbC_length]; rfl)
  have e1 : (Value.agg (tbC T).toArray).cells.size = 24 := by show (tbC T).toArray.size = 24; simpa using hl
  have e : ∀ parts, Tryd.prog.built 71 parts = Instr.fill (fun i => (#[(0, 24)] : Array (Nat × Nat))[i]?) (tbC zT).toArray parts := fun _ => by kernel_rfl
  refine run_build w 71 _ _ ?_
  rw [e]
  show Instr.fill _ _ [(0, _)] = _
  rw [fill_cons _ _ 0 _ _ 0 24 rfl e1 (by rw [e1]; decide)]
  simp only [List.length_nil, List.nil_append, List.append_nil] at m1
  rw [m1]
  rfl
theorem wpList_make_tbl {ops : Array Oper} {rest : List Oper} {o : Oper} {a : Act} {w : World} {Q : Exit → Act → World → Prop} (hg : o.guard = none) (x : Operand) (T : List Lst) (hT : T.length = 8) (ho : o.op = .build 71 #[(0, x)]) (hx : a.eval x = .agg (tbC T).toArray)
    (h : wpList Tryd.prog ops Q rest (a.put o.dst (.agg (tbC T).toArray)) w) : wpList Tryd.prog ops Q (o :: rest) a w :=
  wpList_plain hg fun K hK => by
    have e : ((#[(0, x)] : Array (Nat × Operand)).map fun (i, x) => (i, a.eval x)) = #[(0, .agg (tbC T).toArray)] := by simp [hx]
    unfold Oper.wp execOp
    simp only [ho, e, Sem.run_bind, build_tbl T hT w, Result.andThen_ok, Sem.run_pure]
    exact hK _ _ h
open Classical in
def TofP (w : World) (T : List Lst) (E : Ending) (w' : World) : Prop :=
  Below w.heap.size w w' ∧ if T.length = 8 ∧ Late T then ∃ t, E = .returned (.tuple #[.pointer (some ⟨t, 0, none⟩), .int .i64 0]) ∧ Tbl w' t T ∧ w.heap.size ≤ t else E = .returned (.tuple #[.pointer none, .int .i64 1])
open Classical in
set_option maxHeartbeats 2000000 in
theorem tof_any {w : World} {A : Option Addr} {c : Nat} {T : List Lst} (h : Lss w A T) (hn : T.length ≤ 140737488355328) : Calls Tryd.prog 20 #[.slice A T.length c] w fun E w' => TofP w T E w' := by
  have HC := Lib.hid (contains_any A c T w h hn)
  have HX := Lib.hid h
  have HB0 := Lib.hid (Below.refl w.heap.size w)
  obtain ⟨z, hz⟩ : ∃ z : Bool, z = decide (¬ Late T) := ⟨_, rfl⟩
  have HZ : Hid (z = true ↔ ¬ Late T) := Lib.hid (by rw [hz]; simp)
  rw [← hz] at HC
  obtain ⟨n, hnn⟩ : ∃ n, n = T.length := ⟨_, rfl⟩
  have HL := Lib.hid hnn
  rw [← hnn] at HC hn ⊢
  clear h hz hnn
  by_cases h8 : n = 8
  · subst h8
    have HT8 : Hid (T.length = 8) := Lib.hid HL.out.symm
    obtain ⟨bb, o, rfl, hbl, hcc⟩ := HX.out (by have := HT8.out; omega)
    have HR : Hid (∀ W, Below w.heap.size w W → W.rangeAt bb o (tbC T)) := Lib.hid fun W hb j v hv => (hb.cell (p := ⟨bb, o + j, none⟩) hbl).trans (Lss.cell hcc j v hv)
    have HI : Hid ((Tryd.prog.info? 69).map (·.size) = some (tbC T).length) := Lib.hid (by rw [tbC_length, HT8.out]; exact Tryd.is69)
    have hap : ∀ W, (Instr.arrayAt 69 (.slice (some ⟨bb, o, none⟩) 8 c)).run Tryd.prog W = .ok (.pointer (some ⟨bb, o, none⟩)) W := fun W => by simp [Instr.arrayAt, run_underlying Tryd.underlying69]
    clear HX hcc
    go_enter Tryd.func20, Tryd.ntmps20
    go_wp2_with (first
      | (go_at_call 34; refine HC.out.mono ?_; rintro E w1 ⟨rfl, b1⟩; have HB1 := Lib.hid b1; clear b1 HC; cases z)
      | ((with_reducible refine wpList_load_midG ?_ 69 (.tmp 12) ?_ bb o ?_ (tbC T) _ ?_ Tryd.underlying69 ?_ ?_ ?_); rotate_left; (· rfl); (· rfl); (· exact HR.out _ HB1.out); (· rfl); (· exact HI.out); rotate_left; (· rfl))
      | (refine wpList_make_tbl rfl (.tmp 13) T HT8.out rfl rfl ?_))
    · have HE : Hid (T.length = 8 ∧ Late T) := Lib.hid ⟨HT8.out, Classical.byContradiction fun h => by have := HZ.out.2 h; cases this⟩
      go_ret2
      unfold TofP
      rw [if_pos HE.out]
      exact ⟨HB1.out.alloc HB1.out.size _, _, rfl, ⟨heap_alloc_new w1 _, HT8.out⟩, HB1.out.size⟩
    · have HE : Hid (¬ (T.length = 8 ∧ Late T)) := Lib.hid fun h => HZ.out.1 (by simp) h.2
      go_wp2_with fail
      go_ret2
      unfold TofP
      rw [if_neg HE.out]
      exact ⟨HB1.out, rfl⟩
  · have h1 : ¬ ((n : Int) = 8) := by omega
    have h2 : ((n : Int) == 8) = false := beq_eq_false_iff_ne.2 h1
    have h3 : (n == 8) = false := beq_eq_false_iff_ne.2 h8
    have HE : Hid (¬ (T.length = 8 ∧ Late T)) := Lib.hid fun h => h8 (by rw [HL.out]; exact h.1)
    clear HC
    go_enter Tryd.func20, Tryd.ntmps20
    go_wp2_with fail
    go_ret2
    unfold TofP
    rw [if_neg HE.out]
    exact ⟨HB0.out, rfl⟩
theorem tk_set {T : List Lst} {j : Nat} {p : Lst} (hp : T[j]? = some p) (h8 : T.length = 8) : (T.take j ++ zT.drop j).set j p = T.take (j + 1) ++ zT.drop (j + 1) := by
  have hj : j < 8 := by have := (List.getElem?_eq_some_iff.1 hp).1; omega
  apply List.ext_getElem?
  intro k
  have hl : (T.take j).length = j := by rw [List.length_take, h8]; omega
  have hl2 : (T.take (j + 1)).length = j + 1 := by rw [List.length_take, h8]; omega
  have hlen : j < (T.take j ++ zT.drop j).length := by rw [List.length_append, hl, List.length_drop]; show j < j + (8 - j); omega
  by_cases e : j = k
  · subst e
    rw [List.getElem?_set_self hlen, List.getElem?_append_left (by omega), List.getElem?_take, if_pos (by omega), hp]
  · rw [List.getElem?_set_ne e]
    by_cases hk : k < j
    · rw [List.getElem?_append_left (by omega), List.getElem?_append_left (by omega), List.getElem?_take, List.getElem?_take, if_pos hk, if_pos (by omega)]
    · rw [List.getElem?_append_right (by omega), List.getElem?_append_right (by omega), hl, hl2, List.getElem?_drop, List.getElem?_drop]
      congr 1
      omega
def okT (T : List Lst) : Bool := decide (T.length = 8) && T.all fun p => !earlyT p
theorem okT_iff {T : List Lst} : okT T = true ↔ T.length = 8 ∧ Late T := by
  simp [okT, Late, List.all_eq_true]
theorem okT_no {T : List Lst} (h : ¬ (T.length = 8 ∧ Late T)) : okT T = false := Bool.eq_false_iff.2 fun e => h (okT_iff.1 e)
end Go.Proofs.YtpageppjngbnpaaDoor
