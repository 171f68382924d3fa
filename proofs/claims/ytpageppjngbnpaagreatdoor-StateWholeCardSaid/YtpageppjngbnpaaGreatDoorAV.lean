/-
  What is proved: Of of a table. Conditions as stated.
  What is proved: the document's own table: what lies in memory while it is asked. Conditions as stated.
  What is proved: the document's own Do of a table. Conditions as stated.
  What is proved: the document's own Do of a table, done; of any request. Conditions as stated.
  What is proved: whether lists are the same as the document's own table (same); its Of. Conditions as stated.
  What is proved: a table and its ledger, and the document's own, side by side; an append of what came in. Conditions as stated.
-/
import Derived.Test.YtpageppjngbnpaaGreatDoorAU
import Derived.Test.YtpageppjngbnpaaGreatDoorA9
namespace Go.Proofs.YtpageppjngbnpaaGreatDoor
open Go.RowKit
set_option maxRecDepth 100000

def earlyT (p : Lst) : Bool := decide (p.1 = 0) && !decide (p.2 = ((0 : Int), ByteArray.empty))
def Late (T : List Lst) : Prop := ∀ p ∈ T, earlyT p = false
theorem late_zT : Late zT := fun p hp => by rw [(List.mem_replicate.1 hp).2]; decide +kernel
theorem Late.next {T : List Lst} (h : Late T) (xs : List It) (q : MRq) : Late (tR T xs q).2.1 := by
  cases hm : mayQ q with
  | false => rw [tR_no hm]; exact h
  | true =>
    by_cases hl : (lastOf T q.client).1 < q.time
    · rw [tR_new hm hl]
      intro p hp
      rcases List.mem_or_eq_of_mem_set hp with hp | rfl
      · exact h p hp
      · have := (mayQ_iff.1 hm).2
        rw [earlyT, decide_eq_false this, Bool.false_and]
    · rw [(tR_old (T := T) (xs := xs) (q := q) fun _ => by omega).2]
      exact h
theorem early_any (p : Lst) (w : World) : Calls Tryz.prog 65 #[.agg (lsC p).toArray] w fun E w' => E = .returned (.bool (earlyT p)) ∧ Below w.heap.size w w' := by
  obtain ⟨a, e, v⟩ := p
  have HB : Hid (∀ x, Below w.heap.size w (w.alloc (.cells x 47))) := Lib.hid fun x => (Below.refl _ _).alloc (Nat.le_refl _) _
  have g32 := Tryz.guard33
  by_cases h0 : a = 0
  · subst h0
    have e32 : ∀ w, (Op.equalIn 10000 33 (.agg #[.int .i64 e, .string v]) (.agg #[.int .i64 0, .string ⟨#[]⟩])).run Tryz.prog w = .ok (decide ((e, v) = ((0 : Int), ByteArray.empty))) w := fun w => eq_lrp_of (d := 9998) (e, v) ((0 : Int), ByteArray.empty) (by simp) w
    have HE : Hid (earlyT (0, e, v) = !decide ((e, v) = ((0 : Int), ByteArray.empty))) := Lib.hid (by simp [earlyT])
    rw [HE.out]
    obtain ⟨z, hzz⟩ : ∃ z, z = decide ((e, v) = ((0 : Int), ByteArray.empty)) := ⟨_, rfl⟩
    rw [← hzz] at e32 ⊢
    clear HE hzz
    show Calls Tryz.prog 65 #[.agg #[.int .u64 0, .int .i64 e, .string v]] w _
    go_enter Tryz.func65, Tryz.ntmps65
    go_wp2_with fail
    go_ret
    exact ⟨rfl, HB.out _⟩
  · have HE : Hid (earlyT (a, e, v) = false) := Lib.hid (by rw [earlyT, decide_eq_false h0, Bool.false_and])
    have hz : ¬ ((a : Int) = 0) := by omega
    have hz2 : ((a : Int) == 0) = false := beq_eq_false_iff_ne.2 hz
    have hz3 : (a == 0) = false := beq_eq_false_iff_ne.2 h0
    have hz4 : decide (a = 0) = false := decide_eq_false h0
    rw [HE.out]
    clear HE
    show Calls Tryz.prog 65 #[.agg #[.int .u64 (a : Int), .int .i64 e, .string v]] w _
    go_enter Tryz.func65, Tryz.ntmps65
    go_wp2_with fail
    go_ret
    exact ⟨rfl, HB.out _⟩
set_option maxHeartbeats 4000000 in
theorem index_any (A : Option Addr) (c : Nat) (T : List Lst) (w : World) (h : Lss w A T) (hn : T.length ≤ 140737488355328) :
    Calls Tryz.prog 83 #[.slice A T.length c, .func (.func 65) #[] #[]] w fun E w' => (∃ x : Int, E = .returned (.int .i64 x) ∧ (0 ≤ x ↔ ¬ Late T)) ∧ Below w.heap.size w w' := by
  have HX := Lib.hid h
  obtain ⟨n, hnn⟩ : ∃ n, n = T.length := ⟨_, rfl⟩
  have HL := Lib.hid hnn
  rw [← hnn] at hn ⊢
  clear h hnn
  have HS : Hid (Below w.heap.size w w ∧ Late (T.take 0)) := Lib.hid ⟨Below.refl _ _, by intro p hp; simp at hp⟩
  go_enter Tryz.func83, Tryz.ntmps83
  go_wp2_with fail
  go_loopw [8] (fun v8 wr => ∃ (j : Nat), j ≤ n ∧ v8 = .int .i64 (j : Int) ∧ Hid (Below w.heap.size w wr ∧ Late (T.take j))) (fun v8 _ => n - (intOf v8).toNat)
  case atStart => exact ⟨0, by omega, rfl, HS⟩
  case round =>
    obtain ⟨j, hj, rfl, HR⟩ := hrel
    by_cases hjj : j < n
    · obtain ⟨bb, o, rfl, hbl, hc⟩ := HX.out (by rw [← HL.out]; omega)
      obtain ⟨p, hp⟩ : ∃ p, T[j]? = some p := ⟨_, List.getElem?_eq_getElem (by rw [← HL.out]; exact hjj)⟩
      have hr : wr.rangeAt bb (o + j * 3) (lsC p) := fun k v hv => (HR.out.1.cell (p := ⟨bb, o + j * 3 + k, none⟩) hbl).trans (hc j p hp k v hv)
      have m0 : wr.cell? ⟨bb, o + j * 3, none⟩ = some (.int .u64 (p.1 : Int)) := hr 0 _ rfl
      have m1 : wr.cell? ⟨bb, o + j * 3 + 1, none⟩ = some (.int .i64 p.2.1) := hr 1 _ rfl
      have m2 : wr.cell? ⟨bb, o + j * 3 + 2, none⟩ = some (.string p.2.2) := hr 2 _ rfl
      have HT : Hid (T.take (j + 1) = T.take j ++ [p]) := Lib.hid (by rw [List.take_add_one, hp]; rfl)
      have HM := Lib.hid (List.mem_of_getElem? hp)
      have hdec : decide ((j : Int) < (n : Int)) = true := decide_eq_true (by omega)
      have hj0 : (0 : Int) ≤ (j : Int) := by omega
      have hjn : (j : Int) < (n : Int) := by omega
      have htn : ((j : Int)).toNat = j := by omega
      have hw1 : IntKind.i64.wrap ((j : Int) + 1) = (j : Int) + 1 := by rw [IntKind.wrap_i64]; omega
      obtain ⟨z, hz⟩ : ∃ z, z = earlyT p := ⟨_, rfl⟩
      have HZ := Lib.hid hz
      have HC : Hid (∀ W, Calls Tryz.prog 65 #[.agg #[.int .u64 (p.1 : Int), .int .i64 p.2.1, .string p.2.2]] W fun E w' => E = .returned (.bool z) ∧ Below W.heap.size W w') := Lib.hid fun W => by rw [hz]; exact early_any p W
      clear hr hc hp hz
      cases z with
      | false =>
        go_wp2_with (go_at_call 65; refine (HC.out _).mono ?_; rintro E w1 ⟨rfl, b1⟩)
        go_roundw
        case measure => simp [intOf] <;> omega
        case rel => exact ⟨j + 1, by omega, by go_num, Lib.hid ⟨HR.out.1.trans (b1.mono HR.out.1.size), by
          rw [HT.out]
          intro x hx
          rcases List.mem_append.1 hx with hx | hx
          · exact HR.out.2 x hx
          · rw [List.mem_singleton.1 hx]; exact HZ.out.symm⟩⟩
      | true =>
        go_wp2_with (go_at_call 65; refine (HC.out _).mono ?_; rintro E w1 ⟨rfl, b1⟩)
        go_ret
        exact ⟨⟨_, rfl, ⟨fun _ hl => (by have := hl p HM.out; rw [← HZ.out] at this; cases this), fun _ => by omega⟩⟩, HR.out.1.trans (b1.mono HR.out.1.size)⟩
    · obtain rfl : j = n := by omega
      have hjn : ¬ ((j : Int) < (j : Int)) := by omega
      have hl : Late T := by have := HR.out.2; rwa [List.take_of_length_le (by rw [← HL.out]; exact Nat.le_refl _)] at this
      have HLate := Lib.hid hl
      clear hl
      go_wp2_with fail
      go_ret
      exact ⟨⟨_, rfl, ⟨fun h => absurd h (by decide), fun h => absurd HLate.out h⟩⟩, HR.out.1⟩
open Classical in
theorem contains_any (A : Option Addr) (c : Nat) (T : List Lst) (w : World) (h : Lss w A T) (hn : T.length ≤ 140737488355328) :
    Calls Tryz.prog 64 #[.slice A T.length c, .func (.func 65) #[] #[]] w fun E w' => E = .returned (.bool (decide (¬ Late T))) ∧ Below w.heap.size w w' := by
  have HC := Lib.hid (index_any A c T w h hn)
  obtain ⟨z, hz⟩ : ∃ z : Bool, z = decide (¬ Late T) := ⟨_, rfl⟩
  have HZ : Hid (z = true ↔ ¬ Late T) := Lib.hid (by rw [hz]; simp)
  rw [← hz]
  obtain ⟨n, hnn⟩ : ∃ n, n = T.length := ⟨_, rfl⟩
  rw [← hnn] at HC ⊢
  clear h hn hz hnn
  go_enter Tryz.func64, Tryz.ntmps64
  go_wp2_with (go_at_call 83; refine HC.out.mono ?_)
  rintro E w1 ⟨⟨x, rfl, hx⟩, b1⟩
  have HX : Hid ((0 ≤ x ↔ z = true) ∧ Below w.heap.size w w1) := Lib.hid ⟨hx.trans HZ.out.symm, b1⟩
  have hd : decide ((0 : Int) ≤ x) = z := by rw [Bool.eq_iff_iff]; simpa using HX.out.1
  clear hx b1 HC
  go_wp2_with fail
  go_ret
  refine ⟨?_, HX.out.2⟩
  first | rfl | (rw [← hd]; rfl) | simp [hd]
/-! ### Of -/
theorem Tryz.is48 : (Tryz.prog.info? 48).map (·.size) = some 24 := by kernel_rfl
theorem build_tbl (T : List Lst) (hT : T.length = 8) (w : World) : (Instr.build 111 #[(0, .agg (tbC T).toArray)]).run Tryz.prog w = .ok (.agg (tbC T).toArray) w := by
  have hl : (tbC T).length = 24 := by rw [tbC_length, hT]
  have m1 := fill_mid [] (tbC zT) [] (tbC T) (by rw [hl, tbC_length]; rfl)
  have e1 : (Value.agg (tbC T).toArray).cells.size = 24 := by show (tbC T).toArray.size = 24; simpa using hl
  have e : ∀ parts, Tryz.prog.built 111 parts = Instr.fill (fun i => (#[(0, 24)] : Array (Nat × Nat))[i]?) (tbC zT).toArray parts := fun _ => by kernel_rfl
  refine run_build w 111 _ _ ?_
  rw [e]
  show Instr.fill _ _ [(0, _)] = _
  rw [fill_cons _ _ 0 _ _ 0 24 rfl e1 (by rw [e1]; decide)]
  simp only [List.length_nil, List.nil_append, List.append_nil] at m1
  rw [m1]
  rfl
theorem wpList_make_tbl {ops : Array Oper} {rest : List Oper} {o : Oper} {a : Act} {w : World} {Q : Exit → Act → World → Prop} (hg : o.guard = none) (x : Operand) (T : List Lst) (hT : T.length = 8) (ho : o.op = .build 111 #[(0, x)]) (hx : a.eval x = .agg (tbC T).toArray)
    (h : wpList Tryz.prog ops Q rest (a.put o.dst (.agg (tbC T).toArray)) w) : wpList Tryz.prog ops Q (o :: rest) a w :=
  wpList_plain hg fun K hK => by
    have e : ((#[(0, x)] : Array (Nat × Operand)).map fun (i, x) => (i, a.eval x)) = #[(0, .agg (tbC T).toArray)] := by simp [hx]
    unfold Oper.wp execOp
    simp only [ho, e, Sem.run_bind, build_tbl T hT w, Result.andThen_ok, Sem.run_pure]
    exact hK _ _ h
open Classical in
def TofP (w : World) (T : List Lst) (E : Ending) (w' : World) : Prop :=
  Below w.heap.size w w' ∧ if T.length = 8 ∧ Late T then ∃ t, E = .returned (.tuple #[.pointer (some ⟨t, 0, none⟩), .int .i64 0]) ∧ Tbl w' t T ∧ w.heap.size ≤ t else E = .returned (.tuple #[.pointer none, .int .i64 1])
open Classical in
set_option maxHeartbeats 2000000 in
theorem tof_any {w : World} {A : Option Addr} {c : Nat} {T : List Lst} (h : Lss w A T) (hn : T.length ≤ 140737488355328) : Calls Tryz.prog 38 #[.slice A T.length c] w fun E w' => TofP w T E w' := by
  have HC := Lib.hid (contains_any A c T w h hn)
  have HX := Lib.hid h
  have HB0 := Lib.hid (Below.refl w.heap.size w)
  obtain ⟨z, hz⟩ : ∃ z : Bool, z = decide (¬ Late T) := ⟨_, rfl⟩
  have HZ : Hid (z = true ↔ ¬ Late T) := Lib.hid (by rw [hz]; simp)
  rw [← hz] at HC
  obtain ⟨n, hnn⟩ : ∃ n, n = T.length := ⟨_, rfl⟩
  have HL := Lib.hid hnn
  rw [← hnn] at HC hn ⊢
  clear h hz hnn
  by_cases h8 : n = 8
  · subst h8
    have HT8 : Hid (T.length = 8) := Lib.hid HL.out.symm
    obtain ⟨bb, o, rfl, hbl, hcc⟩ := HX.out (by have := HT8.out; omega)
    have HR : Hid (∀ W, Below w.heap.size w W → W.rangeAt bb o (tbC T)) := Lib.hid fun W hb j v hv => (hb.cell (p := ⟨bb, o + j, none⟩) hbl).trans (Lss.cell hcc j v hv)
    have HI : Hid ((Tryz.prog.info? 48).map (·.size) = some (tbC T).length) := Lib.hid (by rw [tbC_length, HT8.out]; exact Tryz.is48)
    have hap : ∀ W, (Instr.arrayAt 48 (.slice (some ⟨bb, o, none⟩) 8 c)).run Tryz.prog W = .ok (.pointer (some ⟨bb, o, none⟩)) W := fun W => by simp [Instr.arrayAt, run_underlying Tryz.underlying48]
    clear HX hcc
    go_enter Tryz.func38, Tryz.ntmps38
    go_wp2_with (first
      | (go_at_call 64; refine HC.out.mono ?_; rintro E w1 ⟨rfl, b1⟩; have HB1 := Lib.hid b1; clear b1 HC; cases z)
      | ((with_reducible refine wpList_load_midG ?_ 48 (.tmp 12) ?_ bb o ?_ (tbC T) _ ?_ Tryz.underlying48 ?_ ?_ ?_); rotate_left; (· rfl); (· rfl); (· exact HR.out _ HB1.out); (· rfl); (· exact HI.out); rotate_left; (· rfl))
      | (refine wpList_make_tbl rfl (.tmp 13) T HT8.out rfl rfl ?_))
    · have HE : Hid (T.length = 8 ∧ Late T) := Lib.hid ⟨HT8.out, Classical.byContradiction fun h => by have := HZ.out.2 h; cases this⟩
      go_ret2
      unfold TofP
      rw [if_pos HE.out]
      exact ⟨HB1.out.alloc HB1.out.size _, _, rfl, ⟨heap_alloc_new w1 _, HT8.out⟩, HB1.out.size⟩
    · have HE : Hid (¬ (T.length = 8 ∧ Late T)) := Lib.hid fun h => HZ.out.1 (by simp) h.2
      go_wp2_with fail
      go_ret2
      unfold TofP
      rw [if_neg HE.out]
      exact ⟨HB1.out, rfl⟩
  · have h1 : ¬ ((n : Int) = 8) := by omega
    have h2 : ((n : Int) == 8) = false := beq_eq_false_iff_ne.2 h1
    have h3 : (n == 8) = false := beq_eq_false_iff_ne.2 h8
    have HE : Hid (¬ (T.length = 8 ∧ Late T)) := Lib.hid fun h => h8 (by rw [HL.out]; exact h.1)
    clear HC
    go_enter Tryz.func38, Tryz.ntmps38
    go_wp2_with fail
    go_ret2
    unfold TofP
    rw [if_neg HE.out]
    exact ⟨HB0.out, rfl⟩
open Go.RowKit
set_option maxRecDepth 100000

/-- The document's own table lies in this block. -/
structure RTb (w : World) (t : Nat) (T : List Lst) : Prop where
  top : w.heap[t]? = some (.cells (tbC T).toArray 49 (0, 0))
  len : T.length = 8
theorem RTb.lt {w : World} {t : Nat} {T : List Lst} (h : RTb w t T) : t < w.heap.size := (Array.getElem?_eq_some_iff.1 h.top).1
theorem RTb.kept {w w' : World} {t : Nat} {T : List Lst} (h : RTb w t T) (hk : w'.heap[t]? = w.heap[t]?) : RTb w' t T := ⟨hk.trans h.top, h.len⟩
theorem RTb.below {w w' : World} {t : Nat} {T : List Lst} (h : RTb w t T) (hb : Below w.heap.size w w') : RTb w' t T := h.kept (hb.block _ h.lt)
theorem RTb.cell {w : World} {t : Nat} {T : List Lst} (h : RTb w t T) {j : Nat} {p : Lst} (hp : T[j]? = some p) (i : Nat) (v : Value) (hv : (lsC p)[i]? = some v) : w.cell? ⟨t, j * 3 + i, none⟩ = some v :=
  block_cell h.top _ _ (tbC_at hp i v hv)
theorem RTb.range {w : World} {t : Nat} {T : List Lst} (h : RTb w t T) {j : Nat} {p : Lst} (hp : T[j]? = some p) : w.rangeAt t (j * 3) (lsC p) := fun i v hv => h.cell hp i v hv
structure QAt (w : World) (t g : Nat) (r : Option Nat) (bs : List Kept) (W : World) (T : List Lst) (r' : Option Nat) (c' : Nat) (ys : List It) : Prop where
  tbl : RTb W t T
  rl : RL W g r' c' ys
  ne : ¬ On g r' t
  own : Own w (OnT g r t) W (OnT g r' t)
  tlt : t < w.heap.size
  keep : ∀ p ∈ bs, W.heap[p.1]? = some (.cells p.2.1 p.2.2 (0, 0)) ∧ ¬ On g r' p.1 ∧ w.heap.size ≤ p.1
  nd : (bs.map Prod.fst).Nodup
theorem QAt.start {w : World} {t : Nat} {T : List Lst} {g : Nat} {r : Option Nat} {c : Nat} {xs : List It} (hT : RTb w t T) (h : RL w g r c xs) (hne : ¬ On g r t) : QAt w t g r [] w T r c xs :=
  ⟨hT, h, hne, Own.same (Turns.refl _ _), hT.lt, (fun p hp => by cases hp), List.nodup_nil⟩
theorem QAt.size {w : World} {t g : Nat} {r : Option Nat} {bs : List Kept} {W : World} {T : List Lst} {r' : Option Nat} {c' : Nat} {ys : List It} (H : QAt w t g r bs W T r' c' ys) : w.heap.size ≤ W.heap.size := H.own.1.size
theorem QAt.below {w : World} {t g : Nat} {r : Option Nat} {bs : List Kept} {W W' : World} {T : List Lst} {r' : Option Nat} {c' : Nat} {ys : List It} (H : QAt w t g r bs W T r' c' ys) (hb : Below W.heap.size W W') : QAt w t g r bs W' T r' c' ys :=
  ⟨H.tbl.below hb, H.rl.below hb, H.ne, ⟨H.own.1.trans (Turns.of_below hb), H.own.2⟩, H.tlt, fun p hp => ⟨(hb.block _ (Array.getElem?_eq_some_iff.1 (H.keep p hp).1).1).trans (H.keep p hp).1, (H.keep p hp).2⟩, H.nd⟩
theorem QAt.drewN {w : World} {t g : Nat} {r : Option Nat} {bs : List Kept} {W : World} {T : List Lst} {r' : Option Nat} {c' : Nat} {ys : List It} (H : QAt w t g r bs W T r' c' ys) (k : Nat) : QAt w t g r bs (W.drewN k) T r' c' ys := H.below (below_drewN (Below.refl _ _) k)
theorem QAt.box {w : World} {t g : Nat} {r : Option Nat} {bs : List Kept} {W : World} {T : List Lst} {r' : Option Nat} {c' : Nat} {ys : List It} (H : QAt w t g r bs W T r' c' ys) (C : Array Value) (ty : TypeId) : QAt w t g r ((W.heap.size, C, ty) :: bs) (W.alloc (.cells C ty)) T r' c' ys := by
  have H' := H.below ((Below.refl _ _).alloc (Nat.le_refl _) (.cells C ty))
  refine ⟨H'.tbl, H'.rl, H'.ne, H'.own, H'.tlt, fun p hp => ?_, List.nodup_cons.2 ⟨fun hm => ?_, H.nd⟩⟩
  · rcases List.mem_cons.1 hp with rfl | hp
    · exact ⟨heap_alloc_new W _, fun h => by have := H.rl.on_lt _ h; omega, H.size⟩
    · exact H'.keep p hp
  · obtain ⟨p, hp, e⟩ := List.mem_map.1 hm
    have := (Array.getElem?_eq_some_iff.1 (H.keep p hp).1).1
    dsimp only at e
    omega
theorem QAt.at {w : World} {t g : Nat} {r : Option Nat} {bs : List Kept} {W : World} {T : List Lst} {r' : Option Nat} {c' : Nat} {ys : List It} (H : QAt w t g r bs W T r' c' ys) (i : Nat) {b : Nat} {C : Array Value} {ty : TypeId} (hi : bs[i]? = some (b, C, ty)) : W.heap[b]? = some (.cells C ty (0, 0)) ∧ ¬ On g r' b ∧ w.heap.size ≤ b := H.keep _ (List.mem_of_getElem? hi)
theorem QAt.cell {w : World} {t g : Nat} {r : Option Nat} {bs : List Kept} {W : World} {T : List Lst} {r' : Option Nat} {c' : Nat} {ys : List It} (H : QAt w t g r bs W T r' c' ys) (i : Nat) {b : Nat} {C : Array Value} {ty : TypeId} (hi : bs[i]? = some (b, C, ty)) (k : Nat) (v : Value) (hv : C[k]? = some v) : W.cell? ⟨b, k, none⟩ = some v :=
  block_cell (C := C.toList) (t := ty) (H.at i hi).1 k v (by simpa using hv)
theorem QAt.turn {w : World} {t g : Nat} {r : Option Nat} {bs : List Kept} {W W' : World} {T : List Lst} {r' : Option Nat} {c' : Nat} {ys : List It} (H : QAt w t g r bs W T r' c' ys) (i : Nat) {b : Nat} {C D : Array Value} {ty : TypeId} (hi : bs[i]? = some (b, C, ty)) (hh : W'.heap[b]? = some (.cells D ty (0, 0))) (hg : W.grownBy W' (some b)) : QAt w t g r (bs.set i (b, D, ty)) W' T r' c' ys := by
  obtain ⟨h1, h2, h3⟩ := H.at i hi
  have hil := (List.getElem?_eq_some_iff.1 hi).1
  have hk : ∀ k, k < W.heap.size → k ≠ b → W'.heap[k]? = W.heap[k]? := fun k hl hn => hg.block k hl fun e => hn (by cases e; rfl)
  have htl := H.tlt
  have hnd : ∀ (a c : Nat) (p q : Kept), bs[a]? = some p → bs[c]? = some q → a < c → p.1 ≠ q.1 := fun a c p q ha hc hac => by
    have ha' : (bs.map Prod.fst)[a]? = some p.1 := by rw [List.getElem?_map, ha]; rfl
    have hc' : (bs.map Prod.fst)[c]? = some q.1 := by rw [List.getElem?_map, hc]; rfl
    obtain ⟨x1, e1⟩ := List.getElem?_eq_some_iff.1 ha'
    obtain ⟨x2, e2⟩ := List.getElem?_eq_some_iff.1 hc'
    have := List.pairwise_iff_getElem.1 H.nd a c x1 x2 hac
    rwa [e1, e2] at this
  refine ⟨H.tbl.kept (hk _ H.tbl.lt (by omega)), H.rl.kept fun k ho => hk k (H.rl.on_lt k ho) fun e => h2 (e ▸ ho), H.ne, ⟨H.own.1.grown hg (fun k hk => by injection hk with hk; exact .inr (by omega)), H.own.2⟩, htl, fun p hp => ?_, ?_⟩
  · obtain ⟨j, hj⟩ := List.mem_iff_getElem?.1 hp
    by_cases e : i = j
    · subst e
      rw [List.getElem?_set_self hil] at hj
      obtain rfl := Option.some.inj hj
      exact ⟨hh, h2, h3⟩
    · rw [List.getElem?_set_ne e] at hj
      obtain ⟨k1, k2⟩ := H.keep p (List.mem_of_getElem? hj)
      have hne : p.1 ≠ b := by
        rcases Nat.lt_or_gt_of_ne e with h | h
        · exact fun e => hnd i j _ p hi hj h e.symm
        · exact hnd j i p _ hj hi h
      exact ⟨(hk _ (Array.getElem?_eq_some_iff.1 k1).1 hne).trans k1, k2⟩
  · rw [List.map_set]
    have : (bs.map Prod.fst).set i b = bs.map Prod.fst := by
      have : (bs.map Prod.fst)[i]? = some b := by rw [List.getElem?_map, hi]; rfl
      obtain ⟨x, e⟩ := List.getElem?_eq_some_iff.1 this
      conv => lhs; rw [← e]
      exact List.set_getElem_self x
    rw [this]
    exact H.nd
theorem QAt.two {w : World} {t g : Nat} {r : Option Nat} {bs : List Kept} {W : World} {T : List Lst} {r' : Option Nat} {c' : Nat} {ys : List It} (H : QAt w t g r bs W T r' c' ys) (i : Nat) {b : Nat} {x y : Value} {ty : TypeId} (hi : bs[i]? = some (b, #[x, y], ty)) (x' y' : Value) : QAt w t g r (bs.set i (b, #[x', y'], ty)) (W.setCells b 0 [x', y']) T r' c' ys :=
  H.turn i hi (pair_store (a := x) (b := y) (H.at i hi).1 x' y') (gb_setCells b [x', y'] 0 W)
theorem QAt.next {w : World} {t g : Nat} {r : Option Nat} {bs : List Kept} {W W' : World} {T : List Lst} {r' r'' : Option Nat} {c' c'' : Nat} {ys zs : List It} (H : QAt w t g r bs W T r' c' ys) (hs : RL W' g r'' c'' zs) (ho : Own W (On g r') W' (On g r'')) : QAt w t g r bs W' T r'' c'' zs := by
  have hz := H.size
  refine ⟨H.tbl.kept (ho.1.block _ H.tbl.lt H.ne), hs, fun h => ?_, H.own.trans ⟨ho.1.mono fun k hk => .inl hk, fun k hk => ?_⟩, H.tlt, fun p hp => ?_, H.nd⟩
  · rcases ho.2 t h with e | e
    · exact H.ne e
    · have := H.tbl.lt; omega
  · rcases hk with hk | hk
    · rcases ho.2 k hk with e | e
      · exact .inl (.inl e)
      · exact .inr e
    · exact .inl (.inr hk)
  · obtain ⟨h1, h2, h3⟩ := H.keep p hp
    have hlt := (Array.getElem?_eq_some_iff.1 h1).1
    refine ⟨(ho.1.block _ hlt h2).trans h1, fun e => ?_, h3⟩
    rcases ho.2 p.1 e with e' | e'
    · exact h2 e'
    · omega
theorem QAt.put {w : World} {t g : Nat} {r : Option Nat} {bs : List Kept} {W : World} {T : List Lst} {r' : Option Nat} {c' : Nat} {ys : List It} (H : QAt w t g r bs W T r' c' ys) {j : Nat} (hj : j < 8) (a : Nat) (b : Int) (s : ByteArray) :
    QAt w t g r bs (W.setCells t (j * 3) [.int .u64 (a : Int), .int .i64 b, .string s]) (T.set j (a, (b, s))) r' c' ys := by
  have hg := gb_setCells t [.int .u64 (a : Int), .int .i64 b, .string s] (j * 3) W
  have hk : ∀ k, k < W.heap.size → k ≠ t → (W.setCells t (j * 3) [.int .u64 (a : Int), .int .i64 b, .string s]).heap[k]? = W.heap[k]? := fun k hl hn => hg.block k hl fun e => hn (by cases e; rfl)
  have htl := H.tlt
  refine ⟨⟨by rw [← tbC_set (by rw [H.tbl.len]; exact hj) a b s]; exact heap_set (heap_set (heap_set H.tbl.top _) _) _, by rw [List.length_set, H.tbl.len]⟩, H.rl.kept fun k ho => hk k (H.rl.on_lt k ho) fun e => H.ne (e ▸ ho), H.ne, ⟨H.own.1.grown hg (fun k hk => by injection hk with hk; exact .inl (.inr hk.symm)), H.own.2⟩, htl, fun p hp => ?_, H.nd⟩
  obtain ⟨h1, h2, h3⟩ := H.keep p hp
  exact ⟨(hk _ (Array.getElem?_eq_some_iff.1 h1).1 (by omega)).trans h1, h2, h3⟩
def QDoP (w : World) (t : Nat) (T : List Lst) (g : Nat) (r : Option Nat) (xs : List It) (q : MRq) (E : Ending) (w' : World) : Prop :=
  E = .returned (.tuple #[.agg (lrC (tR T xs q).1.1).toArray, .bool (tR T xs q).1.2]) ∧ ∃ r' c', RTb w' t (tR T xs q).2.1 ∧ RL w' g r' c' (tR T xs q).2.2 ∧ ¬ On g r' t ∧ Own w (OnT g r t) w' (OnT g r' t)
theorem QAt.fin {w : World} {t g : Nat} {r : Option Nat} {bs : List Kept} {W : World} {T : List Lst} {r' : Option Nat} {c' : Nat} {ys : List It} (H : QAt w t g r bs W T r' c' ys) : ∃ r' c', RTb W t T ∧ RL W g r' c' ys ∧ ¬ On g r' t ∧ Own w (OnT g r t) W (OnT g r' t) := ⟨r', c', H.tbl, H.rl, H.ne, H.own⟩
open Go.RowKit
set_option maxRecDepth 100000

theorem qdo_no1 {w : World} {t : Nat} {T : List Lst} {g : Nat} {r : Option Nat} {c : Nat} {xs : List It} (hT : RTb w t T) (h : RL w g r c xs) (hne : ¬ On g r t) (q : MRq) (hm : mayQ q = false) (h1 : q.client < 1) :
    Calls Tryz.prog 28 #[.pointer (some ⟨t, 0, none⟩), .pointer (some ⟨g, 0, none⟩), .agg (rqC q).toArray] w fun E w' => QDoP w t T g r xs q E w' := by
  have H0 : Hid (QAt w t g r [(w.heap.size + 1, #[.int .i64 0, .string ⟨#[]⟩], 33), (w.heap.size, (rqC q).toArray, 41)] ((w.alloc (.cells (rqC q).toArray 41)).alloc (.cells #[.int .i64 0, .string ⟨#[]⟩] 33)) T r c xs) := Lib.hid (by
    have := ((QAt.start hT h hne).box (rqC q).toArray 41).box #[.int .i64 0, .string ⟨#[]⟩] 33
    rwa [show (w.alloc (.cells (rqC q).toArray 41)).heap.size = w.heap.size + 1 by simp] at this)
  have HE : Hid (tR T xs q = ((up (no 1), false), T, xs)) := Lib.hid (tR_no hm)
  have HF : Hid (QAt w t g r [(w.heap.size + 1, #[.int .i64 1, .string ⟨#[]⟩], 33), (w.heap.size, (rqC q).toArray, 41)] ((w.alloc (.cells (rqC q).toArray 41)).alloc (.cells #[.int .i64 1, .string ⟨#[]⟩] 33)) T r c xs) := Lib.hid (by
    have := ((QAt.start hT h hne).box (rqC q).toArray 41).box #[.int .i64 1, .string ⟨#[]⟩] 33
    rwa [show (w.alloc (.cells (rqC q).toArray 41)).heap.size = w.heap.size + 1 by simp] at this)
  have k0 : ((w.alloc (.cells (rqC q).toArray 41)).alloc (.cells #[.int .i64 0, .string ⟨#[]⟩] 33)).cell? ⟨w.heap.size, 0, none⟩ = some (.int .i64 q.client) := block_cell (H0.out.at 1 rfl).1 0 _ (rq_0 q)
  have k1 : ((w.alloc (.cells (rqC q).toArray 41)).alloc (.cells #[.int .i64 0, .string ⟨#[]⟩] 33)).cell? ⟨w.heap.size, 1, none⟩ = some (.int .u64 (q.time : Int)) := block_cell (H0.out.at 1 rfl).1 1 _ (rq_1 q)
  clear hT h hne hm H0
  go_enter Tryz.func28, Tryz.ntmps28
  go_wp2_with fail
  (try simp only [Exit.inBlock, Exit.then]); refine bodyPost_ret (ret_ct (g := w.heap.size + 1) (cs := [.int .i64 1, .string ⟨#[]⟩]) rfl rfl rfl (range_all (C := [.int .i64 1, .string ⟨#[]⟩]) (HF.out.at 0 rfl).1) Tryz.underlying33 rfl Tryz.is33) rfl ?_
  show QDoP w t T g r xs _ _ _
  unfold QDoP
  rw [HE.out]
  exact ⟨rfl, HF.out.fin⟩
theorem qdo_no2 {w : World} {t : Nat} {T : List Lst} {g : Nat} {r : Option Nat} {c : Nat} {xs : List It} (hT : RTb w t T) (h : RL w g r c xs) (hne : ¬ On g r t) (q : MRq) (hm : mayQ q = false) (h1 : ¬ q.client < 1) (h2 : 8 < q.client) :
    Calls Tryz.prog 28 #[.pointer (some ⟨t, 0, none⟩), .pointer (some ⟨g, 0, none⟩), .agg (rqC q).toArray] w fun E w' => QDoP w t T g r xs q E w' := by
  have H0 : Hid (QAt w t g r [(w.heap.size + 1, #[.int .i64 0, .string ⟨#[]⟩], 33), (w.heap.size, (rqC q).toArray, 41)] ((w.alloc (.cells (rqC q).toArray 41)).alloc (.cells #[.int .i64 0, .string ⟨#[]⟩] 33)) T r c xs) := Lib.hid (by
    have := ((QAt.start hT h hne).box (rqC q).toArray 41).box #[.int .i64 0, .string ⟨#[]⟩] 33
    rwa [show (w.alloc (.cells (rqC q).toArray 41)).heap.size = w.heap.size + 1 by simp] at this)
  have HE : Hid (tR T xs q = ((up (no 1), false), T, xs)) := Lib.hid (tR_no hm)
  have HF : Hid (QAt w t g r [(w.heap.size + 1, #[.int .i64 1, .string ⟨#[]⟩], 33), (w.heap.size, (rqC q).toArray, 41)] ((w.alloc (.cells (rqC q).toArray 41)).alloc (.cells #[.int .i64 1, .string ⟨#[]⟩] 33)) T r c xs) := Lib.hid (by
    have := ((QAt.start hT h hne).box (rqC q).toArray 41).box #[.int .i64 1, .string ⟨#[]⟩] 33
    rwa [show (w.alloc (.cells (rqC q).toArray 41)).heap.size = w.heap.size + 1 by simp] at this)
  have k0 : ((w.alloc (.cells (rqC q).toArray 41)).alloc (.cells #[.int .i64 0, .string ⟨#[]⟩] 33)).cell? ⟨w.heap.size, 0, none⟩ = some (.int .i64 q.client) := block_cell (H0.out.at 1 rfl).1 0 _ (rq_0 q)
  have k1 : ((w.alloc (.cells (rqC q).toArray 41)).alloc (.cells #[.int .i64 0, .string ⟨#[]⟩] 33)).cell? ⟨w.heap.size, 1, none⟩ = some (.int .u64 (q.time : Int)) := block_cell (H0.out.at 1 rfl).1 1 _ (rq_1 q)
  clear hT h hne hm H0
  go_enter Tryz.func28, Tryz.ntmps28
  go_wp2_with fail
  (try simp only [Exit.inBlock, Exit.then]); refine bodyPost_ret (ret_ct (g := w.heap.size + 1) (cs := [.int .i64 1, .string ⟨#[]⟩]) rfl rfl rfl (range_all (C := [.int .i64 1, .string ⟨#[]⟩]) (HF.out.at 0 rfl).1) Tryz.underlying33 rfl Tryz.is33) rfl ?_
  show QDoP w t T g r xs _ _ _
  unfold QDoP
  rw [HE.out]
  exact ⟨rfl, HF.out.fin⟩
theorem qdo_no3 {w : World} {t : Nat} {T : List Lst} {g : Nat} {r : Option Nat} {c : Nat} {xs : List It} (hT : RTb w t T) (h : RL w g r c xs) (hne : ¬ On g r t) (q : MRq) (hm : mayQ q = false) (h1 : ¬ q.client < 1) (h2 : ¬ 8 < q.client) (h3 : q.time = 0) :
    Calls Tryz.prog 28 #[.pointer (some ⟨t, 0, none⟩), .pointer (some ⟨g, 0, none⟩), .agg (rqC q).toArray] w fun E w' => QDoP w t T g r xs q E w' := by
  have H0 : Hid (QAt w t g r [(w.heap.size + 1, #[.int .i64 0, .string ⟨#[]⟩], 33), (w.heap.size, (rqC q).toArray, 41)] ((w.alloc (.cells (rqC q).toArray 41)).alloc (.cells #[.int .i64 0, .string ⟨#[]⟩] 33)) T r c xs) := Lib.hid (by
    have := ((QAt.start hT h hne).box (rqC q).toArray 41).box #[.int .i64 0, .string ⟨#[]⟩] 33
    rwa [show (w.alloc (.cells (rqC q).toArray 41)).heap.size = w.heap.size + 1 by simp] at this)
  have HE : Hid (tR T xs q = ((up (no 1), false), T, xs)) := Lib.hid (tR_no hm)
  have HF : Hid (QAt w t g r [(w.heap.size + 1, #[.int .i64 1, .string ⟨#[]⟩], 33), (w.heap.size, (rqC q).toArray, 41)] ((w.alloc (.cells (rqC q).toArray 41)).alloc (.cells #[.int .i64 1, .string ⟨#[]⟩] 33)) T r c xs) := Lib.hid (by
    have := ((QAt.start hT h hne).box (rqC q).toArray 41).box #[.int .i64 1, .string ⟨#[]⟩] 33
    rwa [show (w.alloc (.cells (rqC q).toArray 41)).heap.size = w.heap.size + 1 by simp] at this)
  have k0 : ((w.alloc (.cells (rqC q).toArray 41)).alloc (.cells #[.int .i64 0, .string ⟨#[]⟩] 33)).cell? ⟨w.heap.size, 0, none⟩ = some (.int .i64 q.client) := block_cell (H0.out.at 1 rfl).1 0 _ (rq_0 q)
  have k1 : ((w.alloc (.cells (rqC q).toArray 41)).alloc (.cells #[.int .i64 0, .string ⟨#[]⟩] 33)).cell? ⟨w.heap.size, 1, none⟩ = some (.int .u64 0) := by have := block_cell (H0.out.at 1 rfl).1 1 _ (rq_1 q); rw [h3] at this; exact this
  clear hT h hne hm H0
  go_enter Tryz.func28, Tryz.ntmps28
  go_wp2_with fail
  (try simp only [Exit.inBlock, Exit.then]); refine bodyPost_ret (ret_ct (g := w.heap.size + 1) (cs := [.int .i64 1, .string ⟨#[]⟩]) rfl rfl rfl (range_all (C := [.int .i64 1, .string ⟨#[]⟩]) (HF.out.at 0 rfl).1) Tryz.underlying33 rfl Tryz.is33) rfl ?_
  show QDoP w t T g r xs _ _ _
  unfold QDoP
  rw [HE.out]
  exact ⟨rfl, HF.out.fin⟩
set_option maxHeartbeats 2000000 in
theorem qdo_low {w : World} {t : Nat} {T : List Lst} {g : Nat} {r : Option Nat} {c : Nat} {xs : List It} (hT : RTb w t T) (h : RL w g r c xs) (hne : ¬ On g r t) {j : Nat} (hj : j < 8) {tm : Nat} (h0 : tm ≠ 0) (o : MOp) (tag : List Value) (hx : tm < (lastOf T ((j : Int) + 1)).1) :
    Calls Tryz.prog 28 #[.pointer (some ⟨t, 0, none⟩), .pointer (some ⟨g, 0, none⟩), .agg (rqC (⟨(j : Int) + 1, tm, o, tag⟩ : MRq)).toArray] w fun E w' => QDoP w t T g r xs (⟨(j : Int) + 1, tm, o, tag⟩ : MRq) E w' := by
  obtain ⟨p, hp, hlast⟩ := last_at hT.len hj
  have H0 : Hid (QAt w t g r [(w.heap.size + 1, #[.int .i64 0, .string ⟨#[]⟩], 33), (w.heap.size, (rqC (⟨(j : Int) + 1, tm, o, tag⟩ : MRq)).toArray, 41)] ((w.alloc (.cells (rqC (⟨(j : Int) + 1, tm, o, tag⟩ : MRq)).toArray 41)).alloc (.cells #[.int .i64 0, .string ⟨#[]⟩] 33)) T r c xs) := Lib.hid (by
    have := ((QAt.start hT h hne).box (rqC (⟨(j : Int) + 1, tm, o, tag⟩ : MRq)).toArray 41).box #[.int .i64 0, .string ⟨#[]⟩] 33
    rwa [show (w.alloc (.cells (rqC (⟨(j : Int) + 1, tm, o, tag⟩ : MRq)).toArray 41)).heap.size = w.heap.size + 1 by simp] at this)
  have HE : Hid (tR T xs (⟨(j : Int) + 1, tm, o, tag⟩ : MRq) = ((up (no 13), false), T, xs)) := Lib.hid (tR_low (mayQ_iff.2 ⟨by dsimp only; omega, h0⟩) hx)
  have k0 : ((w.alloc (.cells (rqC (⟨(j : Int) + 1, tm, o, tag⟩ : MRq)).toArray 41)).alloc (.cells #[.int .i64 0, .string ⟨#[]⟩] 33)).cell? ⟨w.heap.size, 0, none⟩ = some (.int .i64 ((j : Int) + 1)) := block_cell (H0.out.at 1 rfl).1 0 _ (rq_0 _)
  have k1 : ((w.alloc (.cells (rqC (⟨(j : Int) + 1, tm, o, tag⟩ : MRq)).toArray 41)).alloc (.cells #[.int .i64 0, .string ⟨#[]⟩] 33)).cell? ⟨w.heap.size, 1, none⟩ = some (.int .u64 (tm : Int)) := block_cell (H0.out.at 1 rfl).1 1 _ (rq_1 _)
  have K0 : Hid ((rqC (⟨(j : Int) + 1, tm, o, tag⟩ : MRq))[0]? = some (.int .i64 ((j : Int) + 1))) := Lib.hid rfl
  have HP := Lib.hid hp
  have hwj : IntKind.i64.wrap ((j : Int) + 1 - 1) = (j : Int) := by rw [IntKind.wrap_i64]; omega
  have hwj2 : IntKind.i64.wrap (j : Int) = (j : Int) := by rw [IntKind.wrap_i64]; omega
  have hj0 : (0 : Int) ≤ (j : Int) := by omega
  have hj8 : (j : Int) < 8 := by omega
  have htn : ((j : Int)).toNat = j := by omega
  have hc1 : ¬ ((j : Int) + 1 < 1) := by omega
  have hc2 : ¬ (8 < (j : Int) + 1) := by omega
  have hc3 : ¬ ((tm : Int) = 0) := by omega
  have hcz : ((tm : Int) == 0) = false := beq_eq_false_iff_ne.2 hc3
  have hx1 : (tm : Int) < (p.1 : Int) := by rw [hlast] at hx; omega
  clear hT h hne h0 hx hlast hp
  go_enter Tryz.func28, Tryz.ntmps28
  go_wp2_with fail
  all_goals first | (exfalso; have h9 : ((j : Int) + 1 < 1 ∨ 8 < (j : Int) + 1) ∨ ((tm : Int) == 0) = true := by assumption
                     rcases h9 with (h9 | h9) | h9 <;> first | omega | (rw [beq_iff_eq] at h9; omega)) | skip
  clear k0 k1
  refine wp_region_any (by kernel_rfl) ?_
  change wpAny _ _ _ _ _ _ _ (World.drewN _ 1)
  refine held_gen (G := fun W => wpAny _ _ _ _ _ _ _ W) (fun W => QAt w t g r [(w.heap.size + 1, #[.int .i64 0, .string ⟨#[]⟩], 33), (w.heap.size, (rqC (⟨(j : Int) + 1, tm, o, tag⟩ : MRq)).toArray, 41)] W T r c xs) (H0.out.drewN 1) (fun w31 hW9 => ?_)
  have K31 := Lib.hid hW9
  clear hW9 H0
  refine wpAny_of_held (S := fun W => W.heap[w.heap.size]? = some (.cells (rqC (⟨(j : Int) + 1, tm, o, tag⟩ : MRq)).toArray 41 (0, 0)) ∧ W.rangeAt t (j * 3) (lsC p)) _ _ _ _ ?_
  refine wpAnyH_take (i := 0) (oi := { dst := some 24, op := Op.move (Operand.tmp 0), type := _, pos := _, after := _, guard := none }) (v := .pointer (some ⟨t, 0, none⟩)) rfl (by kernel_rfl) (by kernel_rfl) (by kernel_rfl) (fun _ _ _ h => h) (Or.inl ⟨by kernel_rfl, fun W hSW => by go_simp⟩) (⟨(K31.out.at 1 rfl).1, K31.out.tbl.range HP.out⟩) ?_
  try simp only [Act.put, List.setIfInBounds_toArray, List.set_cons_zero, List.set_cons_succ]
  refine wpAnyH_take (i := 1) (oi := { dst := some 25, op := Op.fieldAddr 41 (Operand.tmp 5) 0, type := _, pos := _, after := _, guard := none }) (v := .pointer (some ⟨w.heap.size, 0, none⟩)) rfl (by kernel_rfl) (by kernel_rfl) (by kernel_rfl) (fun _ _ _ h => h) (Or.inl ⟨by kernel_rfl, fun W hSW => by go_simp⟩) (⟨(K31.out.at 1 rfl).1, K31.out.tbl.range HP.out⟩) ?_
  try simp only [Act.put, List.setIfInBounds_toArray, List.set_cons_zero, List.set_cons_succ]
  refine wpAnyH_take (i := 2) (oi := { dst := some 26, op := Op.load 3 (Operand.tmp 25), type := _, pos := _, after := _, guard := none }) (v := .int .i64 ((j : Int) + 1)) rfl (by kernel_rfl) (by kernel_rfl) (by kernel_rfl) (fun _ _ _ h => h) (Or.inl ⟨by kernel_rfl, fun W hSW => by have hc := block_cell hSW.1 0 _ K0.out; go_simp⟩) (⟨(K31.out.at 1 rfl).1, K31.out.tbl.range HP.out⟩) ?_
  try simp only [Act.put, List.setIfInBounds_toArray, List.set_cons_zero, List.set_cons_succ]
  refine wpAnyH_take (i := 3) (oi := { dst := some 27, op := Op.binOp BinOp.sub 3 (Operand.tmp 26) (Operand.const (Value.int IntKind.i64 1)) 3, type := _, pos := _, after := _, guard := none }) (v := .int .i64 (j : Int)) rfl (by kernel_rfl) (by kernel_rfl) (by kernel_rfl) (fun _ _ _ h => h) (Or.inl ⟨by kernel_rfl, fun W hSW => by go_simp⟩) (⟨(K31.out.at 1 rfl).1, K31.out.tbl.range HP.out⟩) ?_
  try simp only [Act.put, List.setIfInBounds_toArray, List.set_cons_zero, List.set_cons_succ]
  refine wpAnyH_take (i := 4) (oi := { dst := some 28, op := Op.nilCheck (Operand.tmp 24), type := _, pos := _, after := _, guard := none }) (v := .pointer (some ⟨t, 0, none⟩)) rfl (by kernel_rfl) (by kernel_rfl) (by kernel_rfl) (fun _ _ _ h => h) (Or.inl ⟨by kernel_rfl, fun W hSW => by go_simp⟩) (⟨(K31.out.at 1 rfl).1, K31.out.tbl.range HP.out⟩) ?_
  try simp only [Act.put, List.setIfInBounds_toArray, List.set_cons_zero, List.set_cons_succ]
  refine wpAnyH_take (i := 5) (oi := { dst := some 29, op := Op.indexAddr 49 (Operand.tmp 28) (Operand.tmp 27), type := _, pos := _, after := _, guard := none }) (v := .pointer (some ⟨t, j * 3, none⟩)) rfl (by kernel_rfl) (by kernel_rfl) (by kernel_rfl) (fun _ _ _ h => h) (Or.inl ⟨by kernel_rfl, fun W hSW => by go_simp⟩) (⟨(K31.out.at 1 rfl).1, K31.out.tbl.range HP.out⟩) ?_
  try simp only [Act.put, List.setIfInBounds_toArray, List.set_cons_zero, List.set_cons_succ]
  refine wpAnyH_take (i := 6) (oi := { dst := some 30, op := Op.load 47 (Operand.tmp 29), type := _, pos := _, after := _, guard := none }) (v := .agg (lsC p).toArray) rfl (by kernel_rfl) (by kernel_rfl) (by kernel_rfl) (fun _ _ _ h => h) (Or.inl ⟨by kernel_rfl, fun W hSW => exec_load_mid 47 (.tmp 29) rfl t (j * 3) rfl (lsC p) _ hSW.2 Tryz.underlying47 rfl Tryz.is47⟩) (⟨(K31.out.at 1 rfl).1, K31.out.tbl.range HP.out⟩) ?_
  try simp only [Act.put, List.setIfInBounds_toArray, List.set_cons_zero, List.set_cons_succ]
  refine wpAnyH_ready (rs := [7]) (by kernel_rfl) (by simp) ?_
  refine AllReadyH.cons (o := { dst := some 8, op := Op.alloc 47, type := _, pos := _, after := _, guard := none }) rfl (fun K' hK' => ?_) AllReadyH.nil
  go_simp
  have K32 := Lib.hid (K31.out.box #[.int .u64 0, .int .i64 0, .string ⟨#[]⟩] 47)
  clear K31
  refine hK'.out _ _ (⟨(K32.out.at 2 rfl).1, K32.out.tbl.range HP.out⟩) (fun _ => ?_)
  clear hK' K'
  try simp only [Act.put, List.setIfInBounds_toArray, List.set_cons_zero, List.set_cons_succ]
  refine wpAnyH_ready (rs := [8]) (by kernel_rfl) (by simp) ?_
  refine AllReadyH.cons (o := { dst := none, op := Op.store 47 (Operand.tmp 8) (Operand.tmp 30), type := _, pos := _, after := _, guard := none }) rfl (fun K' hK' => ?_) AllReadyH.nil
  rw [if_pos (by kernel_rfl)]
  refine wp_store_mid 47 (.tmp 8) (.tmp 30) rfl w31.heap.size 0 (lsC p).toArray rfl rfl (there_block (C := [.int .u64 0, .int .i64 0, .string ⟨#[]⟩]) (K32.out.at 0 rfl).1 0 3 (by simp)) Tryz.is47 (by simp [lsC, Value.oneCell']) ?_
  have K33 : Hid (QAt w t g r [(w31.heap.size, #[.int .u64 (p.1 : Int), .int .i64 p.2.1, .string p.2.2], 47), (w.heap.size + 1, #[.int .i64 0, .string ⟨#[]⟩], 33), (w.heap.size, (rqC (⟨(j : Int) + 1, tm, o, tag⟩ : MRq)).toArray, 41)] ((w31.alloc (.cells #[.int .u64 0, .int .i64 0, .string ⟨#[]⟩] 47)).setCells w31.heap.size 0 (lsC p).toArray.toList) T r c xs) := Lib.hid (K32.out.turn 0 rfl (heap_set (heap_set (heap_set (C := [.int .u64 0, .int .i64 0, .string ⟨#[]⟩]) (K32.out.at 0 rfl).1 _) _) _) (gb_setCells _ _ _ _))
  clear K32
  generalize (w31.alloc (.cells #[.int .u64 0, .int .i64 0, .string ⟨#[]⟩] 47)).setCells w31.heap.size 0 (lsC p).toArray.toList = w33 at K33 ⊢
  refine hK'.out _ _ (⟨(K33.out.at 2 rfl).1, K33.out.tbl.range HP.out⟩) (fun _ => ?_)
  clear hK' K'
  try simp only [Act.put]
  refine wpAnyH_done (by kernel_rfl) ?_ _
  have l0 : w33.cell? ⟨w31.heap.size, 0, none⟩ = some (.int .u64 (p.1 : Int)) := K33.out.cell 0 rfl 0 _ rfl
  have l1 : w33.cell? ⟨w31.heap.size, 1, none⟩ = some (.int .i64 p.2.1) := K33.out.cell 0 rfl 1 _ rfl
  have l2 : w33.cell? ⟨w31.heap.size, 2, none⟩ = some (.string p.2.2) := K33.out.cell 0 rfl 2 _ rfl
  have k1 : w33.cell? ⟨w.heap.size, 1, none⟩ = some (.int .u64 (tm : Int)) := block_cell (K33.out.at 2 rfl).1 1 _ (rq_1 _)
  have k0 : w33.cell? ⟨w.heap.size, 0, none⟩ = some (.int .i64 ((j : Int) + 1)) := block_cell (K33.out.at 2 rfl).1 0 _ (rq_0 _)
  have d0 : w33.cell? ⟨w.heap.size + 1, 0, none⟩ = some (.int .i64 0) := K33.out.cell 1 rfl 0 _ rfl
  have d1 : w33.cell? ⟨w.heap.size + 1, 1, none⟩ = some (.string ⟨#[]⟩) := K33.out.cell 1 rfl 1 _ rfl
  have f0 : w33.frozen? ⟨w.heap.size + 1, 0, none⟩ = false := free_block (K33.out.at 1 rfl).1 0
  have f1 : w33.frozen? ⟨w.heap.size + 1, 1, none⟩ = false := free_block (K33.out.at 1 rfl).1 1
  go_wp2_with fail
  have HF := Lib.hid (K33.out.two 1 rfl (.int .i64 13) (.string ⟨#[]⟩))
  (try simp only [Exit.inBlock, Exit.then]); refine bodyPost_ret (ret_ct (g := w.heap.size + 1) (cs := [(.int .i64 13), (.string ⟨#[]⟩)]) rfl rfl rfl (range_all (C := [(.int .i64 13), (.string ⟨#[]⟩)]) (HF.out.at 1 rfl).1) Tryz.underlying33 rfl Tryz.is33) rfl ?_
  show QDoP w t T g r xs _ _ _
  unfold QDoP
  rw [HE.out]
  exact ⟨rfl, HF.out.fin⟩
set_option maxHeartbeats 2000000 in
theorem qdo_at {w : World} {t : Nat} {T : List Lst} {g : Nat} {r : Option Nat} {c : Nat} {xs : List It} (hT : RTb w t T) (h : RL w g r c xs) (hne : ¬ On g r t) {j : Nat} (hj : j < 8) {tm : Nat} (h0 : tm ≠ 0) (o : MOp) (tag : List Value) (hx : tm = (lastOf T ((j : Int) + 1)).1) :
    Calls Tryz.prog 28 #[.pointer (some ⟨t, 0, none⟩), .pointer (some ⟨g, 0, none⟩), .agg (rqC (⟨(j : Int) + 1, tm, o, tag⟩ : MRq)).toArray] w fun E w' => QDoP w t T g r xs (⟨(j : Int) + 1, tm, o, tag⟩ : MRq) E w' := by
  obtain ⟨p, hp, hlast⟩ := last_at hT.len hj
  have H0 : Hid (QAt w t g r [(w.heap.size + 1, #[.int .i64 0, .string ⟨#[]⟩], 33), (w.heap.size, (rqC (⟨(j : Int) + 1, tm, o, tag⟩ : MRq)).toArray, 41)] ((w.alloc (.cells (rqC (⟨(j : Int) + 1, tm, o, tag⟩ : MRq)).toArray 41)).alloc (.cells #[.int .i64 0, .string ⟨#[]⟩] 33)) T r c xs) := Lib.hid (by
    have := ((QAt.start hT h hne).box (rqC (⟨(j : Int) + 1, tm, o, tag⟩ : MRq)).toArray 41).box #[.int .i64 0, .string ⟨#[]⟩] 33
    rwa [show (w.alloc (.cells (rqC (⟨(j : Int) + 1, tm, o, tag⟩ : MRq)).toArray 41)).heap.size = w.heap.size + 1 by simp] at this)
  have HE : Hid (tR T xs (⟨(j : Int) + 1, tm, o, tag⟩ : MRq) = ((p.2, false), T, xs)) := Lib.hid (by rw [tR_at (mayQ_iff.2 ⟨by dsimp only; omega, h0⟩) hx, hlast])
  have k0 : ((w.alloc (.cells (rqC (⟨(j : Int) + 1, tm, o, tag⟩ : MRq)).toArray 41)).alloc (.cells #[.int .i64 0, .string ⟨#[]⟩] 33)).cell? ⟨w.heap.size, 0, none⟩ = some (.int .i64 ((j : Int) + 1)) := block_cell (H0.out.at 1 rfl).1 0 _ (rq_0 _)
  have k1 : ((w.alloc (.cells (rqC (⟨(j : Int) + 1, tm, o, tag⟩ : MRq)).toArray 41)).alloc (.cells #[.int .i64 0, .string ⟨#[]⟩] 33)).cell? ⟨w.heap.size, 1, none⟩ = some (.int .u64 (tm : Int)) := block_cell (H0.out.at 1 rfl).1 1 _ (rq_1 _)
  have K0 : Hid ((rqC (⟨(j : Int) + 1, tm, o, tag⟩ : MRq))[0]? = some (.int .i64 ((j : Int) + 1))) := Lib.hid rfl
  have HP := Lib.hid hp
  have hwj : IntKind.i64.wrap ((j : Int) + 1 - 1) = (j : Int) := by rw [IntKind.wrap_i64]; omega
  have hwj2 : IntKind.i64.wrap (j : Int) = (j : Int) := by rw [IntKind.wrap_i64]; omega
  have hj0 : (0 : Int) ≤ (j : Int) := by omega
  have hj8 : (j : Int) < 8 := by omega
  have htn : ((j : Int)).toNat = j := by omega
  have hc1 : ¬ ((j : Int) + 1 < 1) := by omega
  have hc2 : ¬ (8 < (j : Int) + 1) := by omega
  have hc3 : ¬ ((tm : Int) = 0) := by omega
  have hcz : ((tm : Int) == 0) = false := beq_eq_false_iff_ne.2 hc3
  have hxx : tm = p.1 := by rw [hlast] at hx; exact hx
  have hx1 : decide ((tm : Int) < (p.1 : Int)) = false := decide_eq_false (by omega)
  have hx2 : decide (tm < p.1) = false := decide_eq_false (by omega)
  have hx3 : ((tm : Int) == (p.1 : Int)) = true := beq_iff_eq.2 (by omega)
  have hx4 : (tm == p.1) = true := beq_iff_eq.2 hxx
  have hx5 : decide (tm = p.1) = true := decide_eq_true hxx
  clear hxx
  clear hT h hne h0 hx hlast hp
  go_enter Tryz.func28, Tryz.ntmps28
  go_wp2_with fail
  all_goals first | (exfalso; have h9 : ((j : Int) + 1 < 1 ∨ 8 < (j : Int) + 1) ∨ ((tm : Int) == 0) = true := by assumption
                     rcases h9 with (h9 | h9) | h9 <;> first | omega | (rw [beq_iff_eq] at h9; omega)) | skip
  clear k0 k1
  refine wp_region_any (by kernel_rfl) ?_
  change wpAny _ _ _ _ _ _ _ (World.drewN _ 1)
  refine held_gen (G := fun W => wpAny _ _ _ _ _ _ _ W) (fun W => QAt w t g r [(w.heap.size + 1, #[.int .i64 0, .string ⟨#[]⟩], 33), (w.heap.size, (rqC (⟨(j : Int) + 1, tm, o, tag⟩ : MRq)).toArray, 41)] W T r c xs) (H0.out.drewN 1) (fun w31 hW9 => ?_)
  have K31 := Lib.hid hW9
  clear hW9 H0
  refine wpAny_of_held (S := fun W => W.heap[w.heap.size]? = some (.cells (rqC (⟨(j : Int) + 1, tm, o, tag⟩ : MRq)).toArray 41 (0, 0)) ∧ W.rangeAt t (j * 3) (lsC p)) _ _ _ _ ?_
  refine wpAnyH_take (i := 0) (oi := { dst := some 24, op := Op.move (Operand.tmp 0), type := _, pos := _, after := _, guard := none }) (v := .pointer (some ⟨t, 0, none⟩)) rfl (by kernel_rfl) (by kernel_rfl) (by kernel_rfl) (fun _ _ _ h => h) (Or.inl ⟨by kernel_rfl, fun W hSW => by go_simp⟩) (⟨(K31.out.at 1 rfl).1, K31.out.tbl.range HP.out⟩) ?_
  try simp only [Act.put, List.setIfInBounds_toArray, List.set_cons_zero, List.set_cons_succ]
  refine wpAnyH_take (i := 1) (oi := { dst := some 25, op := Op.fieldAddr 41 (Operand.tmp 5) 0, type := _, pos := _, after := _, guard := none }) (v := .pointer (some ⟨w.heap.size, 0, none⟩)) rfl (by kernel_rfl) (by kernel_rfl) (by kernel_rfl) (fun _ _ _ h => h) (Or.inl ⟨by kernel_rfl, fun W hSW => by go_simp⟩) (⟨(K31.out.at 1 rfl).1, K31.out.tbl.range HP.out⟩) ?_
  try simp only [Act.put, List.setIfInBounds_toArray, List.set_cons_zero, List.set_cons_succ]
  refine wpAnyH_take (i := 2) (oi := { dst := some 26, op := Op.load 3 (Operand.tmp 25), type := _, pos := _, after := _, guard := none }) (v := .int .i64 ((j : Int) + 1)) rfl (by kernel_rfl) (by kernel_rfl) (by kernel_rfl) (fun _ _ _ h => h) (Or.inl ⟨by kernel_rfl, fun W hSW => by have hc := block_cell hSW.1 0 _ K0.out; go_simp⟩) (⟨(K31.out.at 1 rfl).1, K31.out.tbl.range HP.out⟩) ?_
  try simp only [Act.put, List.setIfInBounds_toArray, List.set_cons_zero, List.set_cons_succ]
  refine wpAnyH_take (i := 3) (oi := { dst := some 27, op := Op.binOp BinOp.sub 3 (Operand.tmp 26) (Operand.const (Value.int IntKind.i64 1)) 3, type := _, pos := _, after := _, guard := none }) (v := .int .i64 (j : Int)) rfl (by kernel_rfl) (by kernel_rfl) (by kernel_rfl) (fun _ _ _ h => h) (Or.inl ⟨by kernel_rfl, fun W hSW => by go_simp⟩) (⟨(K31.out.at 1 rfl).1, K31.out.tbl.range HP.out⟩) ?_
  try simp only [Act.put, List.setIfInBounds_toArray, List.set_cons_zero, List.set_cons_succ]
  refine wpAnyH_take (i := 4) (oi := { dst := some 28, op := Op.nilCheck (Operand.tmp 24), type := _, pos := _, after := _, guard := none }) (v := .pointer (some ⟨t, 0, none⟩)) rfl (by kernel_rfl) (by kernel_rfl) (by kernel_rfl) (fun _ _ _ h => h) (Or.inl ⟨by kernel_rfl, fun W hSW => by go_simp⟩) (⟨(K31.out.at 1 rfl).1, K31.out.tbl.range HP.out⟩) ?_
  try simp only [Act.put, List.setIfInBounds_toArray, List.set_cons_zero, List.set_cons_succ]
  refine wpAnyH_take (i := 5) (oi := { dst := some 29, op := Op.indexAddr 49 (Operand.tmp 28) (Operand.tmp 27), type := _, pos := _, after := _, guard := none }) (v := .pointer (some ⟨t, j * 3, none⟩)) rfl (by kernel_rfl) (by kernel_rfl) (by kernel_rfl) (fun _ _ _ h => h) (Or.inl ⟨by kernel_rfl, fun W hSW => by go_simp⟩) (⟨(K31.out.at 1 rfl).1, K31.out.tbl.range HP.out⟩) ?_
  try simp only [Act.put, List.setIfInBounds_toArray, List.set_cons_zero, List.set_cons_succ]
  refine wpAnyH_take (i := 6) (oi := { dst := some 30, op := Op.load 47 (Operand.tmp 29), type := _, pos := _, after := _, guard := none }) (v := .agg (lsC p).toArray) rfl (by kernel_rfl) (by kernel_rfl) (by kernel_rfl) (fun _ _ _ h => h) (Or.inl ⟨by kernel_rfl, fun W hSW => exec_load_mid 47 (.tmp 29) rfl t (j * 3) rfl (lsC p) _ hSW.2 Tryz.underlying47 rfl Tryz.is47⟩) (⟨(K31.out.at 1 rfl).1, K31.out.tbl.range HP.out⟩) ?_
  try simp only [Act.put, List.setIfInBounds_toArray, List.set_cons_zero, List.set_cons_succ]
  refine wpAnyH_ready (rs := [7]) (by kernel_rfl) (by simp) ?_
  refine AllReadyH.cons (o := { dst := some 8, op := Op.alloc 47, type := _, pos := _, after := _, guard := none }) rfl (fun K' hK' => ?_) AllReadyH.nil
  go_simp
  have K32 := Lib.hid (K31.out.box #[.int .u64 0, .int .i64 0, .string ⟨#[]⟩] 47)
  clear K31
  refine hK'.out _ _ (⟨(K32.out.at 2 rfl).1, K32.out.tbl.range HP.out⟩) (fun _ => ?_)
  clear hK' K'
  try simp only [Act.put, List.setIfInBounds_toArray, List.set_cons_zero, List.set_cons_succ]
  refine wpAnyH_ready (rs := [8]) (by kernel_rfl) (by simp) ?_
  refine AllReadyH.cons (o := { dst := none, op := Op.store 47 (Operand.tmp 8) (Operand.tmp 30), type := _, pos := _, after := _, guard := none }) rfl (fun K' hK' => ?_) AllReadyH.nil
  rw [if_pos (by kernel_rfl)]
  refine wp_store_mid 47 (.tmp 8) (.tmp 30) rfl w31.heap.size 0 (lsC p).toArray rfl rfl (there_block (C := [.int .u64 0, .int .i64 0, .string ⟨#[]⟩]) (K32.out.at 0 rfl).1 0 3 (by simp)) Tryz.is47 (by simp [lsC, Value.oneCell']) ?_
  have K33 : Hid (QAt w t g r [(w31.heap.size, #[.int .u64 (p.1 : Int), .int .i64 p.2.1, .string p.2.2], 47), (w.heap.size + 1, #[.int .i64 0, .string ⟨#[]⟩], 33), (w.heap.size, (rqC (⟨(j : Int) + 1, tm, o, tag⟩ : MRq)).toArray, 41)] ((w31.alloc (.cells #[.int .u64 0, .int .i64 0, .string ⟨#[]⟩] 47)).setCells w31.heap.size 0 (lsC p).toArray.toList) T r c xs) := Lib.hid (K32.out.turn 0 rfl (heap_set (heap_set (heap_set (C := [.int .u64 0, .int .i64 0, .string ⟨#[]⟩]) (K32.out.at 0 rfl).1 _) _) _) (gb_setCells _ _ _ _))
  clear K32
  generalize (w31.alloc (.cells #[.int .u64 0, .int .i64 0, .string ⟨#[]⟩] 47)).setCells w31.heap.size 0 (lsC p).toArray.toList = w33 at K33 ⊢
  refine hK'.out _ _ (⟨(K33.out.at 2 rfl).1, K33.out.tbl.range HP.out⟩) (fun _ => ?_)
  clear hK' K'
  try simp only [Act.put]
  refine wpAnyH_done (by kernel_rfl) ?_ _
  have l0 : w33.cell? ⟨w31.heap.size, 0, none⟩ = some (.int .u64 (p.1 : Int)) := K33.out.cell 0 rfl 0 _ rfl
  have l1 : w33.cell? ⟨w31.heap.size, 1, none⟩ = some (.int .i64 p.2.1) := K33.out.cell 0 rfl 1 _ rfl
  have l2 : w33.cell? ⟨w31.heap.size, 2, none⟩ = some (.string p.2.2) := K33.out.cell 0 rfl 2 _ rfl
  have k1 : w33.cell? ⟨w.heap.size, 1, none⟩ = some (.int .u64 (tm : Int)) := block_cell (K33.out.at 2 rfl).1 1 _ (rq_1 _)
  have k0 : w33.cell? ⟨w.heap.size, 0, none⟩ = some (.int .i64 ((j : Int) + 1)) := block_cell (K33.out.at 2 rfl).1 0 _ (rq_0 _)
  have d0 : w33.cell? ⟨w.heap.size + 1, 0, none⟩ = some (.int .i64 0) := K33.out.cell 1 rfl 0 _ rfl
  have d1 : w33.cell? ⟨w.heap.size + 1, 1, none⟩ = some (.string ⟨#[]⟩) := K33.out.cell 1 rfl 1 _ rfl
  have f0 : w33.frozen? ⟨w.heap.size + 1, 0, none⟩ = false := free_block (K33.out.at 1 rfl).1 0
  have f1 : w33.frozen? ⟨w.heap.size + 1, 1, none⟩ = false := free_block (K33.out.at 1 rfl).1 1
  go_wp2_with fail
  have HF := Lib.hid (K33.out.two 1 rfl (.int .i64 p.2.1) (.string p.2.2))
  (try simp only [Exit.inBlock, Exit.then]); refine bodyPost_ret (ret_ct (g := w.heap.size + 1) (cs := [(.int .i64 p.2.1), (.string p.2.2)]) rfl rfl rfl (range_all (C := [(.int .i64 p.2.1), (.string p.2.2)]) (HF.out.at 1 rfl).1) Tryz.underlying33 rfl Tryz.is33) rfl ?_
  show QDoP w t T g r xs _ _ _
  unfold QDoP
  rw [HE.out]
  exact ⟨rfl, HF.out.fin⟩
open Go.RowKit
set_option maxRecDepth 100000

set_option maxHeartbeats 2000000 in
theorem qdo_new {w : World} {t : Nat} {T : List Lst} {g : Nat} {r : Option Nat} {c : Nat} {xs : List It} (hT : RTb w t T) (h : RL w g r c xs) (hne : ¬ On g r t) {j : Nat} (hj : j < 8) {tm : Nat} (h0 : tm ≠ 0) (o : MOp) (tag : List Value) (hrise : Rise xs) (hlen : xs.length ≤ 64) (hsm : ∀ p ∈ xs, p.2.size ≤ 128) (hx : (lastOf T ((j : Int) + 1)).1 < tm) :
    Calls Tryz.prog 28 #[.pointer (some ⟨t, 0, none⟩), .pointer (some ⟨g, 0, none⟩), .agg (rqC (⟨(j : Int) + 1, tm, o, tag⟩ : MRq)).toArray] w fun E w' => QDoP w t T g r xs (⟨(j : Int) + 1, tm, o, tag⟩ : MRq) E w' := by
  obtain ⟨p, hp, hlast⟩ := last_at hT.len hj
  have H0 : Hid (QAt w t g r [(w.heap.size + 1, #[.int .i64 0, .string ⟨#[]⟩], 33), (w.heap.size, (rqC (⟨(j : Int) + 1, tm, o, tag⟩ : MRq)).toArray, 41)] ((w.alloc (.cells (rqC (⟨(j : Int) + 1, tm, o, tag⟩ : MRq)).toArray 41)).alloc (.cells #[.int .i64 0, .string ⟨#[]⟩] 33)) T r c xs) := Lib.hid (by
    have := ((QAt.start hT h hne).box (rqC (⟨(j : Int) + 1, tm, o, tag⟩ : MRq)).toArray 41).box #[.int .i64 0, .string ⟨#[]⟩] 33
    rwa [show (w.alloc (.cells (rqC (⟨(j : Int) + 1, tm, o, tag⟩ : MRq)).toArray 41)).heap.size = w.heap.size + 1 by simp] at this)
  have k0 : ((w.alloc (.cells (rqC (⟨(j : Int) + 1, tm, o, tag⟩ : MRq)).toArray 41)).alloc (.cells #[.int .i64 0, .string ⟨#[]⟩] 33)).cell? ⟨w.heap.size, 0, none⟩ = some (.int .i64 ((j : Int) + 1)) := block_cell (H0.out.at 1 rfl).1 0 _ (rq_0 _)
  have k1 : ((w.alloc (.cells (rqC (⟨(j : Int) + 1, tm, o, tag⟩ : MRq)).toArray 41)).alloc (.cells #[.int .i64 0, .string ⟨#[]⟩] 33)).cell? ⟨w.heap.size, 1, none⟩ = some (.int .u64 (tm : Int)) := block_cell (H0.out.at 1 rfl).1 1 _ (rq_1 _)
  have K0 : Hid ((rqC (⟨(j : Int) + 1, tm, o, tag⟩ : MRq))[0]? = some (.int .i64 ((j : Int) + 1))) := Lib.hid rfl
  have HP := Lib.hid hp
  have hwj : IntKind.i64.wrap ((j : Int) + 1 - 1) = (j : Int) := by rw [IntKind.wrap_i64]; omega
  have hwj2 : IntKind.i64.wrap (j : Int) = (j : Int) := by rw [IntKind.wrap_i64]; omega
  have hj0 : (0 : Int) ≤ (j : Int) := by omega
  have hj8 : (j : Int) < 8 := by omega
  have htn : ((j : Int)).toNat = j := by omega
  have hc1 : ¬ ((j : Int) + 1 < 1) := by omega
  have hc2 : ¬ (8 < (j : Int) + 1) := by omega
  have hc3 : ¬ ((tm : Int) = 0) := by omega
  have hcz : ((tm : Int) == 0) = false := beq_eq_false_iff_ne.2 hc3
  obtain ⟨er, vl, he⟩ : ∃ er vl, (doR xs o).1 = (er, vl) := ⟨_, _, rfl⟩
  obtain ⟨zs, hzs⟩ : ∃ zs, zs = (doR xs o).2 := ⟨_, rfl⟩
  have HD : Hid (∀ W, RL W g r c xs → Calls Tryz.prog 52 #[.pointer (some ⟨g, 0, none⟩), .agg (opC o).toArray] W fun E w' => E = .returned (.agg #[.int .i64 (er : Int), .string vl]) ∧ ∃ r' c', RL w' g r' c' zs ∧ Own W (On g r) w' (On g r')) := Lib.hid fun W hs => (rdo_any hs hrise (by omega) hsm o).mono fun E w' hd => by unfold ROpP at hd; rw [he, ← hzs] at hd; exact hd
  have hx1 : decide ((tm : Int) < (p.1 : Int)) = false := decide_eq_false (by rw [hlast] at hx; omega)
  have hx2 : decide (tm < p.1) = false := decide_eq_false (by rw [hlast] at hx; omega)
  have hx3 : ((tm : Int) == (p.1 : Int)) = false := beq_eq_false_iff_ne.2 (by rw [hlast] at hx; omega)
  have hx4 : (tm == p.1) = false := beq_eq_false_iff_ne.2 (by rw [hlast] at hx; omega)
  have hx5 : decide (tm = p.1) = false := decide_eq_false (by rw [hlast] at hx; omega)
  have K1 : Hid ((rqC (⟨(j : Int) + 1, tm, o, tag⟩ : MRq))[1]? = some (.int .u64 (tm : Int))) := Lib.hid rfl
  have HOp : Hid (∀ i v, (opC o)[i]? = some v → (rqC (⟨(j : Int) + 1, tm, o, tag⟩ : MRq))[2 + i]? = some v) := Lib.hid (rq_op (⟨(j : Int) + 1, tm, o, tag⟩ : MRq))
  have HE : Hid (tR T xs (⟨(j : Int) + 1, tm, o, tag⟩ : MRq) = ((((er : Int), vl), true), T.set j (tm, ((er : Int), vl)), zs)) := Lib.hid (by rw [tR_new (mayQ_iff.2 ⟨by dsimp only; omega, h0⟩) hx, he, ← hzs]; simp [up])
  clear he hzs hrise hlen hsm
  clear hT h hne h0 hx hlast hp
  go_enter Tryz.func28, Tryz.ntmps28
  go_wp2_with fail
  all_goals first | (exfalso; have h9 : ((j : Int) + 1 < 1 ∨ 8 < (j : Int) + 1) ∨ ((tm : Int) == 0) = true := by assumption
                     rcases h9 with (h9 | h9) | h9 <;> first | omega | (rw [beq_iff_eq] at h9; omega)) | skip
  clear k0 k1
  refine wp_region_any (by kernel_rfl) ?_
  change wpAny _ _ _ _ _ _ _ (World.drewN _ 1)
  refine held_gen (G := fun W => wpAny _ _ _ _ _ _ _ W) (fun W => QAt w t g r [(w.heap.size + 1, #[.int .i64 0, .string ⟨#[]⟩], 33), (w.heap.size, (rqC (⟨(j : Int) + 1, tm, o, tag⟩ : MRq)).toArray, 41)] W T r c xs) (H0.out.drewN 1) (fun w31 hW9 => ?_)
  have K31 := Lib.hid hW9
  clear hW9 H0
  refine wpAny_of_held (S := fun W => W.heap[w.heap.size]? = some (.cells (rqC (⟨(j : Int) + 1, tm, o, tag⟩ : MRq)).toArray 41 (0, 0)) ∧ W.rangeAt t (j * 3) (lsC p)) _ _ _ _ ?_
  refine wpAnyH_take (i := 0) (oi := { dst := some 24, op := Op.move (Operand.tmp 0), type := _, pos := _, after := _, guard := none }) (v := .pointer (some ⟨t, 0, none⟩)) rfl (by kernel_rfl) (by kernel_rfl) (by kernel_rfl) (fun _ _ _ h => h) (Or.inl ⟨by kernel_rfl, fun W hSW => by go_simp⟩) (⟨(K31.out.at 1 rfl).1, K31.out.tbl.range HP.out⟩) ?_
  try simp only [Act.put, List.setIfInBounds_toArray, List.set_cons_zero, List.set_cons_succ]
  refine wpAnyH_take (i := 1) (oi := { dst := some 25, op := Op.fieldAddr 41 (Operand.tmp 5) 0, type := _, pos := _, after := _, guard := none }) (v := .pointer (some ⟨w.heap.size, 0, none⟩)) rfl (by kernel_rfl) (by kernel_rfl) (by kernel_rfl) (fun _ _ _ h => h) (Or.inl ⟨by kernel_rfl, fun W hSW => by go_simp⟩) (⟨(K31.out.at 1 rfl).1, K31.out.tbl.range HP.out⟩) ?_
  try simp only [Act.put, List.setIfInBounds_toArray, List.set_cons_zero, List.set_cons_succ]
  refine wpAnyH_take (i := 2) (oi := { dst := some 26, op := Op.load 3 (Operand.tmp 25), type := _, pos := _, after := _, guard := none }) (v := .int .i64 ((j : Int) + 1)) rfl (by kernel_rfl) (by kernel_rfl) (by kernel_rfl) (fun _ _ _ h => h) (Or.inl ⟨by kernel_rfl, fun W hSW => by have hc := block_cell hSW.1 0 _ K0.out; go_simp⟩) (⟨(K31.out.at 1 rfl).1, K31.out.tbl.range HP.out⟩) ?_
  try simp only [Act.put, List.setIfInBounds_toArray, List.set_cons_zero, List.set_cons_succ]
  refine wpAnyH_take (i := 3) (oi := { dst := some 27, op := Op.binOp BinOp.sub 3 (Operand.tmp 26) (Operand.const (Value.int IntKind.i64 1)) 3, type := _, pos := _, after := _, guard := none }) (v := .int .i64 (j : Int)) rfl (by kernel_rfl) (by kernel_rfl) (by kernel_rfl) (fun _ _ _ h => h) (Or.inl ⟨by kernel_rfl, fun W hSW => by go_simp⟩) (⟨(K31.out.at 1 rfl).1, K31.out.tbl.range HP.out⟩) ?_
  try simp only [Act.put, List.setIfInBounds_toArray, List.set_cons_zero, List.set_cons_succ]
  refine wpAnyH_take (i := 4) (oi := { dst := some 28, op := Op.nilCheck (Operand.tmp 24), type := _, pos := _, after := _, guard := none }) (v := .pointer (some ⟨t, 0, none⟩)) rfl (by kernel_rfl) (by kernel_rfl) (by kernel_rfl) (fun _ _ _ h => h) (Or.inl ⟨by kernel_rfl, fun W hSW => by go_simp⟩) (⟨(K31.out.at 1 rfl).1, K31.out.tbl.range HP.out⟩) ?_
  try simp only [Act.put, List.setIfInBounds_toArray, List.set_cons_zero, List.set_cons_succ]
  refine wpAnyH_take (i := 5) (oi := { dst := some 29, op := Op.indexAddr 49 (Operand.tmp 28) (Operand.tmp 27), type := _, pos := _, after := _, guard := none }) (v := .pointer (some ⟨t, j * 3, none⟩)) rfl (by kernel_rfl) (by kernel_rfl) (by kernel_rfl) (fun _ _ _ h => h) (Or.inl ⟨by kernel_rfl, fun W hSW => by go_simp⟩) (⟨(K31.out.at 1 rfl).1, K31.out.tbl.range HP.out⟩) ?_
  try simp only [Act.put, List.setIfInBounds_toArray, List.set_cons_zero, List.set_cons_succ]
  refine wpAnyH_take (i := 6) (oi := { dst := some 30, op := Op.load 47 (Operand.tmp 29), type := _, pos := _, after := _, guard := none }) (v := .agg (lsC p).toArray) rfl (by kernel_rfl) (by kernel_rfl) (by kernel_rfl) (fun _ _ _ h => h) (Or.inl ⟨by kernel_rfl, fun W hSW => exec_load_mid 47 (.tmp 29) rfl t (j * 3) rfl (lsC p) _ hSW.2 Tryz.underlying47 rfl Tryz.is47⟩) (⟨(K31.out.at 1 rfl).1, K31.out.tbl.range HP.out⟩) ?_
  try simp only [Act.put, List.setIfInBounds_toArray, List.set_cons_zero, List.set_cons_succ]
  refine wpAnyH_ready (rs := [7]) (by kernel_rfl) (by simp) ?_
  refine AllReadyH.cons (o := { dst := some 8, op := Op.alloc 47, type := _, pos := _, after := _, guard := none }) rfl (fun K' hK' => ?_) AllReadyH.nil
  go_simp
  have K32 := Lib.hid (K31.out.box #[.int .u64 0, .int .i64 0, .string ⟨#[]⟩] 47)
  clear K31
  refine hK'.out _ _ (⟨(K32.out.at 2 rfl).1, K32.out.tbl.range HP.out⟩) (fun _ => ?_)
  clear hK' K'
  try simp only [Act.put, List.setIfInBounds_toArray, List.set_cons_zero, List.set_cons_succ]
  refine wpAnyH_ready (rs := [8]) (by kernel_rfl) (by simp) ?_
  refine AllReadyH.cons (o := { dst := none, op := Op.store 47 (Operand.tmp 8) (Operand.tmp 30), type := _, pos := _, after := _, guard := none }) rfl (fun K' hK' => ?_) AllReadyH.nil
  rw [if_pos (by kernel_rfl)]
  refine wp_store_mid 47 (.tmp 8) (.tmp 30) rfl w31.heap.size 0 (lsC p).toArray rfl rfl (there_block (C := [.int .u64 0, .int .i64 0, .string ⟨#[]⟩]) (K32.out.at 0 rfl).1 0 3 (by simp)) Tryz.is47 (by simp [lsC, Value.oneCell']) ?_
  have K33 : Hid (QAt w t g r [(w31.heap.size, #[.int .u64 (p.1 : Int), .int .i64 p.2.1, .string p.2.2], 47), (w.heap.size + 1, #[.int .i64 0, .string ⟨#[]⟩], 33), (w.heap.size, (rqC (⟨(j : Int) + 1, tm, o, tag⟩ : MRq)).toArray, 41)] ((w31.alloc (.cells #[.int .u64 0, .int .i64 0, .string ⟨#[]⟩] 47)).setCells w31.heap.size 0 (lsC p).toArray.toList) T r c xs) := Lib.hid (K32.out.turn 0 rfl (heap_set (heap_set (heap_set (C := [.int .u64 0, .int .i64 0, .string ⟨#[]⟩]) (K32.out.at 0 rfl).1 _) _) _) (gb_setCells _ _ _ _))
  clear K32
  generalize (w31.alloc (.cells #[.int .u64 0, .int .i64 0, .string ⟨#[]⟩] 47)).setCells w31.heap.size 0 (lsC p).toArray.toList = w33 at K33 ⊢
  refine hK'.out _ _ (⟨(K33.out.at 2 rfl).1, K33.out.tbl.range HP.out⟩) (fun _ => ?_)
  clear hK' K'
  try simp only [Act.put]
  refine wpAnyH_done (by kernel_rfl) ?_ _
  have l0 : w33.cell? ⟨w31.heap.size, 0, none⟩ = some (.int .u64 (p.1 : Int)) := K33.out.cell 0 rfl 0 _ rfl
  have l1 : w33.cell? ⟨w31.heap.size, 1, none⟩ = some (.int .i64 p.2.1) := K33.out.cell 0 rfl 1 _ rfl
  have l2 : w33.cell? ⟨w31.heap.size, 2, none⟩ = some (.string p.2.2) := K33.out.cell 0 rfl 2 _ rfl
  have k1 : w33.cell? ⟨w.heap.size, 1, none⟩ = some (.int .u64 (tm : Int)) := block_cell (K33.out.at 2 rfl).1 1 _ (rq_1 _)
  have k0 : w33.cell? ⟨w.heap.size, 0, none⟩ = some (.int .i64 ((j : Int) + 1)) := block_cell (K33.out.at 2 rfl).1 0 _ (rq_0 _)
  have d0 : w33.cell? ⟨w.heap.size + 1, 0, none⟩ = some (.int .i64 0) := K33.out.cell 1 rfl 0 _ rfl
  have d1 : w33.cell? ⟨w.heap.size + 1, 1, none⟩ = some (.string ⟨#[]⟩) := K33.out.cell 1 rfl 1 _ rfl
  have f0 : w33.frozen? ⟨w.heap.size + 1, 0, none⟩ = false := free_block (K33.out.at 1 rfl).1 0
  have f1 : w33.frozen? ⟨w.heap.size + 1, 1, none⟩ = false := free_block (K33.out.at 1 rfl).1 1
  go_wp2_with (first
    | ((with_reducible refine wpList_load_midG ?_ 38 (.tmp 45) ?_ w.heap.size 2 ?_ (opC o) _ ?_ Tryz.underlying38 ?_ ?_ ?_); rotate_left; (· rfl); (· rfl); (· exact range_block (K33.out.at 2 rfl).1 2 _ HOp.out); (· rfl); (· exact Tryz.is38); rotate_left; (· rfl))
    | (go_at_call 52; refine (HD.out _ K33.out.rl).mono ?_; rintro E w40 ⟨rfl, r40, c40, l40, q40⟩
       have K40 := Lib.hid ((K33.out.next l40 q40).box #[.int .i64 (er : Int), .string vl] 33)
       clear K33 HD l40 q40 l0 l1 l2 k0 k1 d0 d1 f0 f1))
  refine wp_region_any (by kernel_rfl) ?_
  change wpAny _ _ _ _ _ _ _ (World.drewN _ 1)
  refine held_gen (G := fun W => wpAny _ _ _ _ _ _ _ W) (fun W => QAt w t g r [(w40.heap.size, #[.int .i64 (er : Int), .string vl], 33), (w31.heap.size, #[.int .u64 (p.1 : Int), .int .i64 p.2.1, .string p.2.2], 47), (w.heap.size + 1, #[.int .i64 0, .string ⟨#[]⟩], 33), (w.heap.size, (rqC (⟨(j : Int) + 1, tm, o, tag⟩ : MRq)).toArray, 41)] W T r40 c40 zs) (K40.out.drewN 1) (fun w50 hW9 => ?_)
  have K50 := Lib.hid hW9
  clear hW9 K40
  refine wpAny_of_held (S := fun W => W.heap[w.heap.size]? = some (.cells (rqC (⟨(j : Int) + 1, tm, o, tag⟩ : MRq)).toArray 41 (0, 0)) ∧ W.heap[w40.heap.size]? = some (.cells ([.int .i64 (er : Int), .string vl] : List Value).toArray 33 (0, 0))) _ _ _ _ ?_
  refine wpAnyH_take (i := 0) (oi := { dst := some 48, op := Op.move (Operand.tmp 0), type := _, pos := _, after := _, guard := none }) (v := .pointer (some ⟨t, 0, none⟩)) rfl (by kernel_rfl) (by kernel_rfl) (by kernel_rfl) (fun _ _ _ h => h) (Or.inl ⟨by kernel_rfl, fun W hSW => by go_simp⟩) (⟨(K50.out.at 3 rfl).1, (K50.out.at 0 rfl).1⟩) ?_
  try simp only [Act.put, List.setIfInBounds_toArray, List.set_cons_zero, List.set_cons_succ]
  refine wpAnyH_take (i := 1) (oi := { dst := some 49, op := Op.fieldAddr 41 (Operand.tmp 5) 0, type := _, pos := _, after := _, guard := none }) (v := .pointer (some ⟨w.heap.size, 0, none⟩)) rfl (by kernel_rfl) (by kernel_rfl) (by kernel_rfl) (fun _ _ _ h => h) (Or.inl ⟨by kernel_rfl, fun W hSW => by go_simp⟩) (⟨(K50.out.at 3 rfl).1, (K50.out.at 0 rfl).1⟩) ?_
  try simp only [Act.put, List.setIfInBounds_toArray, List.set_cons_zero, List.set_cons_succ]
  refine wpAnyH_take (i := 2) (oi := { dst := some 50, op := Op.load 3 (Operand.tmp 49), type := _, pos := _, after := _, guard := none }) (v := .int .i64 ((j : Int) + 1)) rfl (by kernel_rfl) (by kernel_rfl) (by kernel_rfl) (fun _ _ _ h => h) (Or.inl ⟨by kernel_rfl, fun W hSW => by have hc := block_cell hSW.1 0 _ K0.out; go_simp⟩) (⟨(K50.out.at 3 rfl).1, (K50.out.at 0 rfl).1⟩) ?_
  try simp only [Act.put, List.setIfInBounds_toArray, List.set_cons_zero, List.set_cons_succ]
  refine wpAnyH_take (i := 3) (oi := { dst := some 51, op := Op.binOp BinOp.sub 3 (Operand.tmp 50) (Operand.const (Value.int IntKind.i64 1)) 3, type := _, pos := _, after := _, guard := none }) (v := .int .i64 (j : Int)) rfl (by kernel_rfl) (by kernel_rfl) (by kernel_rfl) (fun _ _ _ h => h) (Or.inl ⟨by kernel_rfl, fun W hSW => by go_simp⟩) (⟨(K50.out.at 3 rfl).1, (K50.out.at 0 rfl).1⟩) ?_
  try simp only [Act.put, List.setIfInBounds_toArray, List.set_cons_zero, List.set_cons_succ]
  refine wpAnyH_take (i := 4) (oi := { dst := some 52, op := Op.fieldAddr 41 (Operand.tmp 5) 1, type := _, pos := _, after := _, guard := none }) (v := .pointer (some ⟨w.heap.size, 1, none⟩)) rfl (by kernel_rfl) (by kernel_rfl) (by kernel_rfl) (fun _ _ _ h => h) (Or.inl ⟨by kernel_rfl, fun W hSW => by go_simp⟩) (⟨(K50.out.at 3 rfl).1, (K50.out.at 0 rfl).1⟩) ?_
  try simp only [Act.put, List.setIfInBounds_toArray, List.set_cons_zero, List.set_cons_succ]
  refine wpAnyH_take (i := 5) (oi := { dst := some 53, op := Op.load 36 (Operand.tmp 52), type := _, pos := _, after := _, guard := none }) (v := .int .u64 (tm : Int)) rfl (by kernel_rfl) (by kernel_rfl) (by kernel_rfl) (fun _ _ _ h => h) (Or.inl ⟨by kernel_rfl, fun W hSW => by have hc := block_cell hSW.1 1 _ K1.out; go_simp⟩) (⟨(K50.out.at 3 rfl).1, (K50.out.at 0 rfl).1⟩) ?_
  try simp only [Act.put, List.setIfInBounds_toArray, List.set_cons_zero, List.set_cons_succ]
  refine wpAnyH_take (i := 6) (oi := { dst := some 54, op := Op.load 33 (Operand.tmp 9), type := _, pos := _, after := _, guard := none }) (v := .agg #[.int .i64 (er : Int), .string vl]) rfl (by kernel_rfl) (by kernel_rfl) (by kernel_rfl) (fun _ _ _ h => h) (Or.inl ⟨by kernel_rfl, fun W hSW => exec_load_mid 33 (.tmp 9) rfl w40.heap.size 0 rfl [.int .i64 (er : Int), .string vl] _ (range_all hSW.2) Tryz.underlying33 rfl Tryz.is33⟩) (⟨(K50.out.at 3 rfl).1, (K50.out.at 0 rfl).1⟩) ?_
  try simp only [Act.put, List.setIfInBounds_toArray, List.set_cons_zero, List.set_cons_succ]
  refine wpAnyH_take (i := 7) (oi := { dst := some 55, op := Op.build 47 #[(0, Operand.tmp 53), (1, Operand.tmp 54)], type := _, pos := _, after := _, guard := none }) (v := .agg #[.int .u64 (tm : Int), .int .i64 (er : Int), .string vl]) rfl (by kernel_rfl) (by kernel_rfl) (by kernel_rfl) (fun _ _ _ h => h) (Or.inl ⟨by kernel_rfl, fun W hSW => by go_simp⟩) (⟨(K50.out.at 3 rfl).1, (K50.out.at 0 rfl).1⟩) ?_
  try simp only [Act.put, List.setIfInBounds_toArray, List.set_cons_zero, List.set_cons_succ]
  refine wpAnyH_take (i := 8) (oi := { dst := some 56, op := Op.nilCheck (Operand.tmp 48), type := _, pos := _, after := _, guard := none }) (v := .pointer (some ⟨t, 0, none⟩)) rfl (by kernel_rfl) (by kernel_rfl) (by kernel_rfl) (fun _ _ _ h => h) (Or.inl ⟨by kernel_rfl, fun W hSW => by go_simp⟩) (⟨(K50.out.at 3 rfl).1, (K50.out.at 0 rfl).1⟩) ?_
  try simp only [Act.put, List.setIfInBounds_toArray, List.set_cons_zero, List.set_cons_succ]
  refine wpAnyH_take (i := 9) (oi := { dst := some 57, op := Op.indexAddr 49 (Operand.tmp 56) (Operand.tmp 51), type := _, pos := _, after := _, guard := none }) (v := .pointer (some ⟨t, j * 3, none⟩)) rfl (by kernel_rfl) (by kernel_rfl) (by kernel_rfl) (fun _ _ _ h => h) (Or.inl ⟨by kernel_rfl, fun W hSW => by go_simp⟩) (⟨(K50.out.at 3 rfl).1, (K50.out.at 0 rfl).1⟩) ?_
  try simp only [Act.put, List.setIfInBounds_toArray, List.set_cons_zero, List.set_cons_succ]
  refine wpAnyH_ready (rs := [10]) (by kernel_rfl) (by simp) ?_
  refine AllReadyH.cons (o := { dst := none, op := Op.store 47 (Operand.tmp 57) (Operand.tmp 55), type := _, pos := _, after := _, guard := none }) rfl (fun K' hK' => ?_) AllReadyH.nil
  rw [if_pos (by kernel_rfl)]
  refine wp_store_mid 47 (.tmp 57) (.tmp 55) rfl t (j * 3) #[.int .u64 (tm : Int), .int .i64 (er : Int), .string vl] rfl rfl (there_block K50.out.tbl.top (j * 3) 3 (by rw [tbC_length, K50.out.tbl.len]; omega)) Tryz.is47 (by simp [Value.oneCell']) ?_
  have K51 : Hid (QAt w t g r [(w40.heap.size, #[.int .i64 (er : Int), .string vl], 33), (w31.heap.size, #[.int .u64 (p.1 : Int), .int .i64 p.2.1, .string p.2.2], 47), (w.heap.size + 1, #[.int .i64 0, .string ⟨#[]⟩], 33), (w.heap.size, (rqC (⟨(j : Int) + 1, tm, o, tag⟩ : MRq)).toArray, 41)] (w50.setCells t (j * 3) #[.int .u64 (tm : Int), .int .i64 (er : Int), .string vl].toList) (T.set j (tm, ((er : Int), vl))) r40 c40 zs) := Lib.hid (K50.out.put hj tm (er : Int) vl)
  clear K50
  generalize w50.setCells t (j * 3) #[.int .u64 (tm : Int), .int .i64 (er : Int), .string vl].toList = w51 at K51 ⊢
  refine hK'.out _ _ (⟨(K51.out.at 3 rfl).1, (K51.out.at 0 rfl).1⟩) (fun _ => ?_)
  clear hK' K'
  try simp only [Act.put]
  refine wpAnyH_done (by kernel_rfl) ?_ _
  have x0 : w51.cell? ⟨w40.heap.size, 0, none⟩ = some (.int .i64 (er : Int)) := K51.out.cell 0 rfl 0 _ rfl
  have x1 : w51.cell? ⟨w40.heap.size, 1, none⟩ = some (.string vl) := K51.out.cell 0 rfl 1 _ rfl
  have d0 : w51.cell? ⟨w.heap.size + 1, 0, none⟩ = some (.int .i64 0) := K51.out.cell 2 rfl 0 _ rfl
  have d1 : w51.cell? ⟨w.heap.size + 1, 1, none⟩ = some (.string ⟨#[]⟩) := K51.out.cell 2 rfl 1 _ rfl
  have f0 : w51.frozen? ⟨w.heap.size + 1, 0, none⟩ = false := free_block (K51.out.at 2 rfl).1 0
  have f1 : w51.frozen? ⟨w.heap.size + 1, 1, none⟩ = false := free_block (K51.out.at 2 rfl).1 1
  go_wp2_with fail
  have HF := Lib.hid (K51.out.two 2 rfl (.int .i64 (er : Int)) (.string vl))
  (try simp only [Exit.inBlock, Exit.then]); refine bodyPost_ret (ret_ct (g := w.heap.size + 1) (cs := [.int .i64 (er : Int), .string vl]) rfl rfl rfl (range_all (C := [.int .i64 (er : Int), .string vl]) (HF.out.at 2 rfl).1) Tryz.underlying33 rfl Tryz.is33) rfl ?_
  show QDoP w t T g r xs _ _ _
  unfold QDoP
  rw [HE.out]
  exact ⟨rfl, HF.out.fin⟩
theorem qdo_any {w : World} {t : Nat} {T : List Lst} {g : Nat} {r : Option Nat} {c : Nat} {xs : List It} (hT : RTb w t T) (h : RL w g r c xs) (hne : ¬ On g r t) (hrise : Rise xs) (hlen : xs.length ≤ 64) (hsm : ∀ p ∈ xs, p.2.size ≤ 128) (q : MRq) :
    Calls Tryz.prog 28 #[.pointer (some ⟨t, 0, none⟩), .pointer (some ⟨g, 0, none⟩), .agg (rqC q).toArray] w fun E w' => QDoP w t T g r xs q E w' := by
  cases hm : mayQ q with
  | false =>
    by_cases h1 : q.client < 1
    · exact qdo_no1 hT h hne q hm h1
    · by_cases h2 : 8 < q.client
      · exact qdo_no2 hT h hne q hm h1 h2
      · refine qdo_no3 hT h hne q hm h1 h2 ?_
        by_cases h3 : q.time = 0
        · exact h3
        · rw [mayQ_iff.2 ⟨by omega, h3⟩] at hm
          cases hm
  | true =>
    obtain ⟨hc, h0⟩ := mayQ_iff.1 hm
    obtain ⟨cl, tm, o, tag⟩ := q
    dsimp only at hc h0
    obtain ⟨j, rfl⟩ : ∃ j : Nat, cl = (j : Int) + 1 := ⟨(cl - 1).toNat, by omega⟩
    have hj : j < 8 := by omega
    rcases Nat.lt_trichotomy tm (lastOf T ((j : Int) + 1)).1 with hx | hx | hx
    · exact qdo_low hT h hne hj h0 o tag hx
    · exact qdo_at hT h hne hj h0 o tag hx
    · exact qdo_new hT h hne hj h0 o tag hrise hlen hsm hx
open Go.RowKit
set_option maxRecDepth 100000

theorem Tryz.is49 : (Tryz.prog.info? 49).map (·.size) = some 24 := by kernel_rfl
theorem zero_tb (w : World) : (zeroValue 49).run Tryz.prog w = .ok (.agg (tbC zT).toArray) w := by kernel_rfl
theorem tk_set {T : List Lst} {j : Nat} {p : Lst} (hp : T[j]? = some p) (h8 : T.length = 8) : (T.take j ++ zT.drop j).set j p = T.take (j + 1) ++ zT.drop (j + 1) := by
  have hj : j < 8 := by have := (List.getElem?_eq_some_iff.1 hp).1; omega
  apply List.ext_getElem?
  intro k
  have hl : (T.take j).length = j := by rw [List.length_take, h8]; omega
  have hl2 : (T.take (j + 1)).length = j + 1 := by rw [List.length_take, h8]; omega
  have hlen : j < (T.take j ++ zT.drop j).length := by rw [List.length_append, hl, List.length_drop]; show j < j + (8 - j); omega
  by_cases e : j = k
  · subst e
    rw [List.getElem?_set_self hlen, List.getElem?_append_left (by omega), List.getElem?_take, if_pos (by omega), hp]
  · rw [List.getElem?_set_ne e]
    by_cases hk : k < j
    · rw [List.getElem?_append_left (by omega), List.getElem?_append_left (by omega), List.getElem?_take, List.getElem?_take, if_pos hk, if_pos (by omega)]
    · rw [List.getElem?_append_right (by omega), List.getElem?_append_right (by omega), hl, hl2, List.getElem?_drop, List.getElem?_drop]
      congr 1
      omega
def okT (T : List Lst) : Bool := decide (T.length = 8) && T.all fun p => !earlyT p
theorem okT_iff {T : List Lst} : okT T = true ↔ T.length = 8 ∧ Late T := by
  simp [okT, Late, List.all_eq_true]
theorem okT_no {T : List Lst} (h : ¬ (T.length = 8 ∧ Late T)) : okT T = false := Bool.eq_false_iff.2 fun e => h (okT_iff.1 e)
set_option maxHeartbeats 8000000 in
theorem rtof_any {A : Option Addr} {c : Nat} {T : List Lst} {w : World} (h : Lss w A T) (hn : T.length ≤ 140737488355328) :
    Calls Tryz.prog 45 #[.slice A T.length c] w fun E w' => E = .returned (.tuple #[.agg (tbC (if okT T = true then T else zT)).toArray, .int .i64 (if okT T = true then 0 else 1)]) ∧ Below w.heap.size w w' := by
  obtain ⟨RV, hRV⟩ : ∃ RV, RV = tbC (if okT T = true then T else zT) := ⟨_, rfl⟩
  obtain ⟨rx, hrx⟩ : ∃ rx : Int, rx = (if okT T = true then 0 else 1) := ⟨_, rfl⟩
  have HR1 : Hid (okT T = true → RV = tbC T ∧ rx = 0) := Lib.hid fun e => ⟨by rw [hRV, if_pos e], by rw [hrx, if_pos e]⟩
  have HR2 : Hid (okT T = false → RV = tbC zT ∧ rx = 1) := Lib.hid fun e => ⟨by rw [hRV, e]; rfl, by rw [hrx, e]; rfl⟩
  rw [← hRV, ← hrx]
  clear hRV hrx
  obtain ⟨n, hnn⟩ : ∃ n, n = T.length := ⟨_, rfl⟩
  have HL := Lib.hid hnn
  have HX := Lib.hid h
  have hz36 := zero_tb
  have HZ1 : Hid (∀ v ∈ tbC zT, v.oneCell' = true) := Lib.hid (tbC_one _)
  have HZi : Hid ((Tryz.prog.info? 49).map (·.size) = some (tbC zT).length) := Lib.hid Tryz.is49
  have HK0 : Hid (Kp w [(w.heap.size + 1, (tbC zT).toArray, 49), (w.heap.size, (tbC zT).toArray, 49)] ((w.alloc (.cells (tbC zT).toArray 49)).alloc (.cells (tbC zT).toArray 49))) := Lib.hid (by
    have := ((Kp.start w).box (tbC zT).toArray 49).box (tbC zT).toArray 49
    rwa [show (w.alloc (.cells (tbC zT).toArray 49)).heap.size = w.heap.size + 1 by simp] at this)
  have HZt : Hid ((tbC zT).length = 24) := Lib.hid rfl
  obtain ⟨ZT, hZT⟩ : ∃ ZT, ZT = tbC zT := ⟨_, rfl⟩
  have HZE := Lib.hid hZT
  rw [← hZT] at hz36 HZ1 HZi HK0 HZt
  rw [← hnn] at hn ⊢
  clear h hnn hZT
  by_cases h8 : n = 8
  · subst h8
    have HT8 : Hid (T.length = 8) := Lib.hid HL.out.symm
    have HS : Hid (Kp w [(w.heap.size + 1, (tbC (T.take 0 ++ zT.drop 0)).toArray, 49), (w.heap.size, (ZT).toArray, 49)] ((w.alloc (.cells ZT.toArray 49)).alloc (.cells ZT.toArray 49)) ∧ Late (T.take 0)) := Lib.hid ⟨by have := HK0.out; rw [show tbC (T.take 0 ++ zT.drop 0) = ZT by rw [HZE.out]; rfl]; exact this, by intro p hp; simp at hp⟩
    clear HK0
    go_enter Tryz.func45, Tryz.ntmps45
    go_wp2_with fail
    go_loopw [5] (fun v5 wr => ∃ (j : Nat), j ≤ 8 ∧ v5 = .int .i64 (j : Int) ∧ Hid (Kp w [(w.heap.size + 1, (tbC (T.take j ++ zT.drop j)).toArray, 49), (w.heap.size, (ZT).toArray, 49)] wr ∧ Late (T.take j))) (fun v5 _ => 8 - (intOf v5).toNat)
    case atStart => exact ⟨0, by omega, rfl, HS⟩
    case round =>
      clear HS
      obtain ⟨j, hj, rfl, HR⟩ := hrel
      by_cases hjj : j < 8
      · obtain ⟨bb, o, rfl, hbl, hc⟩ := HX.out (by have := HT8.out; omega)
        obtain ⟨p, hp⟩ : ∃ p, T[j]? = some p := ⟨_, List.getElem?_eq_getElem (by have := HT8.out; omega)⟩
        have hdec : decide ((j : Int) < (8 : Int)) = true := decide_eq_true (by omega)
        have hj0 : (0 : Int) ≤ (j : Int) := by omega
        have hjn : (j : Int) < (8 : Int) := by omega
        have htn : ((j : Int)).toNat = j := by omega
        have hw1 : IntKind.i64.wrap ((j : Int) + 1) = (j : Int) + 1 := by rw [IntKind.wrap_i64]; omega
        have m0 : wr.cell? ⟨bb, o + j * 3, none⟩ = some (.int .u64 (p.1 : Int)) := (HR.out.1.bel.cell (p := ⟨bb, o + j * 3, none⟩) hbl).trans (hc j p hp 0 _ rfl)
        have m1 : wr.cell? ⟨bb, o + j * 3 + 1, none⟩ = some (.int .i64 p.2.1) := (HR.out.1.bel.cell (p := ⟨bb, o + j * 3 + 1, none⟩) hbl).trans (hc j p hp 1 _ rfl)
        have m2 : wr.cell? ⟨bb, o + j * 3 + 2, none⟩ = some (.string p.2.2) := (HR.out.1.bel.cell (p := ⟨bb, o + j * 3 + 2, none⟩) hbl).trans (hc j p hp 2 _ rfl)
        have HTk : Hid (T.take (j + 1) = T.take j ++ [p]) := Lib.hid (by rw [List.take_add_one, hp]; rfl)
        have HPm := Lib.hid (List.mem_of_getElem? hp)
        have HSet : Hid ((T.take j ++ zT.drop j).set j p = T.take (j + 1) ++ zT.drop (j + 1)) := Lib.hid (tk_set hp HT8.out)
        have HK := Lib.hid HR.out.1
        have HLt := Lib.hid HR.out.2
        have hlz : (T.take j ++ zT.drop j).length = 8 := by rw [List.length_append, List.length_take, List.length_drop, HT8.out]; show min j 8 + (8 - j) = 8; omega
        have HLz := Lib.hid hlz
        have hcond : earlyT p = true ∨ earlyT p = false := by cases earlyT p <;> simp
        clear hc hp HR hlz
        obtain ⟨a, e, v⟩ := p
        have g32 := Tryz.guard33
        have e32 : ∀ w, (Op.equalIn 10000 33 (.agg #[.int .i64 e, .string v]) (.agg #[.int .i64 0, .string ⟨#[]⟩])).run Tryz.prog w = .ok (decide ((e, v) = ((0 : Int), ByteArray.empty))) w := fun w => eq_lrp_of (d := 9998) (e, v) ((0 : Int), ByteArray.empty) (by simp) w
        obtain ⟨z, hz⟩ : ∃ z, z = decide ((e, v) = ((0 : Int), ByteArray.empty)) := ⟨_, rfl⟩
        rw [← hz] at e32
        have HEy : Hid (earlyT (a, e, v) = (decide (a = 0) && !z)) := Lib.hid (by rw [hz]; rfl)
        clear hz
        by_cases ha : a = 0
        · subst ha
          cases z with
          | true =>
            have HEf : Hid (earlyT (0, e, v) = false) := Lib.hid (by rw [HEy.out]; rfl)
            clear hcond HEy
            go_wp2_with (first
              | (refine wpList_store_cells rfl 47 (.tmp 37) (.tmp 36) rfl (w.heap.size + 1) (j * 3) [.int .u64 0, .int .i64 e, .string v] rfl rfl (there_block (HK.out.at 0 rfl).1 (j * 3) 3 (by rw [tbC_length, HLz.out]; omega)) Tryz.is47 (by simp [Value.oneCell']) ?_
                 have HK2 : Hid (Kp w [(w.heap.size + 1, (tbC (T.take (j + 1) ++ zT.drop (j + 1))).toArray, 49), (w.heap.size, (ZT).toArray, 49)] (wr.setCells (w.heap.size + 1) (j * 3) [.int .u64 0, .int .i64 e, .string v])) := Lib.hid (HK.out.turn 0 rfl (by rw [← HSet.out, ← tbC_set (by rw [HLz.out]; omega) 0 e v]; exact heap_set (heap_set (heap_set (HK.out.at 0 rfl).1 _) _) _) (gb_setCells _ _ _ _))
                 clear HK))
            go_roundw
            case measure => simp [intOf] <;> omega
            case rel => exact ⟨j + 1, by omega, by go_num, Lib.hid ⟨HK2.out, by
              rw [HTk.out]
              intro x hx
              rcases List.mem_append.1 hx with hx | hx
              · exact HLt.out x hx
              · rw [List.mem_singleton.1 hx]; exact HEf.out⟩⟩
          | false =>
            have HEt : Hid (earlyT (0, e, v) = true) := Lib.hid (by rw [HEy.out]; rfl)
            clear hcond HEy
            have HE : Hid (okT T = false) := Lib.hid (okT_no fun h => by have := h.2 _ HPm.out; rw [HEt.out] at this; cases this)
            go_wp2_with (first
              | (refine wpList_store_all rfl 49 (.tmp 2) (.tmp 31) rfl w.heap.size ZT (ZT) 49 (HK.out.at 1 rfl).1 rfl rfl rfl HZi.out HZ1.out ?_
                 intro w1 hww1
                 have Hw1 : Hid (Kp w [(w.heap.size + 1, (tbC (T.take j ++ zT.drop j)).toArray, 49), (w.heap.size, (ZT).toArray, 49)] w1) := Lib.hid (HK.out.turn 1 rfl hww1.out.1 hww1.out.2)
                 clear HK hww1))
            (try simp only [Exit.inBlock, Exit.then]); refine bodyPost_ret (ret_ct (g := w.heap.size) (cs := ZT) rfl rfl rfl (range_all (C := ZT) (Hw1.out.at 1 rfl).1) Tryz.underlying49 rfl HZi.out) rfl ?_
            exact ⟨by rw [(HR2.out HE.out).1, (HR2.out HE.out).2, HZE.out] <;> rfl, Hw1.out.bel⟩
        · have HEf : Hid (earlyT (a, e, v) = false) := Lib.hid (by rw [HEy.out, decide_eq_false ha]; rfl)
          have hz1 : ¬ ((a : Int) = 0) := by omega
          have hz2 : ((a : Int) == 0) = false := beq_eq_false_iff_ne.2 hz1
          have hz3 : (a == 0) = false := beq_eq_false_iff_ne.2 ha
          have hz4 : decide (a = 0) = false := decide_eq_false ha
          clear hcond HEy ha
          go_wp2_with (first
            | (refine wpList_store_cells rfl 47 (.tmp 37) (.tmp 36) rfl (w.heap.size + 1) (j * 3) [.int .u64 (a : Int), .int .i64 e, .string v] rfl rfl (there_block (HK.out.at 0 rfl).1 (j * 3) 3 (by rw [tbC_length, HLz.out]; omega)) Tryz.is47 (by simp [Value.oneCell']) ?_
               have HK2 : Hid (Kp w [(w.heap.size + 1, (tbC (T.take (j + 1) ++ zT.drop (j + 1))).toArray, 49), (w.heap.size, (ZT).toArray, 49)] (wr.setCells (w.heap.size + 1) (j * 3) [.int .u64 (a : Int), .int .i64 e, .string v])) := Lib.hid (HK.out.turn 0 rfl (by rw [← HSet.out, ← tbC_set (by rw [HLz.out]; omega) a e v]; exact heap_set (heap_set (heap_set (HK.out.at 0 rfl).1 _) _) _) (gb_setCells _ _ _ _))
               clear HK))
          go_roundw
          case measure => simp [intOf] <;> omega
          case rel => exact ⟨j + 1, by omega, by go_num, Lib.hid ⟨HK2.out, by
            rw [HTk.out]
            intro x hx
            rcases List.mem_append.1 hx with hx | hx
            · exact HLt.out x hx
            · rw [List.mem_singleton.1 hx]; exact HEf.out⟩⟩
      · obtain rfl : j = 8 := by omega
        have HK : Hid (Kp w [(w.heap.size + 1, (tbC T).toArray, 49), (w.heap.size, (ZT).toArray, 49)] wr) := Lib.hid (by have := HR.out.1; rwa [show T.take 8 ++ zT.drop 8 = T by rw [List.take_of_length_le (by have := HT8.out; omega)]; exact List.append_nil T] at this)
        have HE : Hid (okT T = true) := Lib.hid (okT_iff.2 ⟨HT8.out, by have := HR.out.2; rwa [List.take_of_length_le (by have := HT8.out; omega)] at this⟩)
        have HTi : Hid ((Tryz.prog.info? 49).map (·.size) = some (tbC T).length) := Lib.hid (by rw [tbC_length, HT8.out]; exact Tryz.is49)
        have HTl : Hid (ZT.length = (tbC T).length) := Lib.hid (by rw [HZt.out, tbC_length, HT8.out])
        have HT1 := Lib.hid (tbC_one T)
        clear HR
        go_wp2_with (first
          | ((with_reducible refine wpList_load_midG ?_ 49 (.tmp 4) ?_ (w.heap.size + 1) 0 ?_ (tbC T) _ ?_ Tryz.underlying49 ?_ ?_ ?_); rotate_left; (· rfl); (· rfl); (· exact range_all (HK.out.at 0 rfl).1); (· rfl); (· exact HTi.out); rotate_left; (· rfl))
          | (refine wpList_store_all rfl 49 (.tmp 2) (.tmp 38) rfl w.heap.size ZT (tbC T) 49 (HK.out.at 1 rfl).1 HTl.out rfl rfl HTi.out HT1.out ?_
             intro w1 hww1
             have Hw1 : Hid (Kp w [(w.heap.size + 1, (tbC T).toArray, 49), (w.heap.size, (tbC T).toArray, 49)] w1) := Lib.hid (HK.out.turn 1 rfl hww1.out.1 hww1.out.2)
             clear HK hww1))
        (try simp only [Exit.inBlock, Exit.then]); refine bodyPost_ret (ret_ct (g := w.heap.size) (cs := tbC T) rfl rfl rfl (range_all (C := tbC T) (Hw1.out.at 1 rfl).1) Tryz.underlying49 rfl HTi.out) rfl ?_
        exact ⟨by rw [(HR1.out HE.out).1, (HR1.out HE.out).2] <;> rfl, Hw1.out.bel⟩
  · have h1 : ¬ ((n : Int) = 8) := by omega
    have h2 : ((n : Int) == 8) = false := beq_eq_false_iff_ne.2 h1
    have h3 : (n == 8) = false := beq_eq_false_iff_ne.2 h8
    have HE : Hid (okT T = false) := Lib.hid (okT_no fun h => h8 (by rw [HL.out]; exact h.1))
    clear HX HL
    go_enter Tryz.func45, Tryz.ntmps45
    go_wp2_with (first
      | ((with_reducible refine wpList_load_midG ?_ 49 (.tmp 4) ?_ (w.heap.size + 1) 0 ?_ ZT _ ?_ Tryz.underlying49 ?_ ?_ ?_); rotate_left; (· rfl); (· rfl); (· exact range_all (HK0.out.at 0 rfl).1); (· rfl); (· exact HZi.out); rotate_left; (· rfl))
      | (refine wpList_store_all rfl 49 (.tmp 2) (.tmp 9) rfl w.heap.size ZT (ZT) 49 (HK0.out.at 1 rfl).1 rfl rfl rfl HZi.out HZ1.out ?_
         intro w1 hww1
         have Hw1 : Hid (Kp w [(w.heap.size + 1, (ZT).toArray, 49), (w.heap.size, (ZT).toArray, 49)] w1) := Lib.hid (HK0.out.turn 1 rfl hww1.out.1 hww1.out.2)
         clear HK0 hww1))
    (try simp only [Exit.inBlock, Exit.then]); refine bodyPost_ret (ret_ct (g := w.heap.size) (cs := ZT) rfl rfl rfl (range_all (C := ZT) (Hw1.out.at 1 rfl).1) Tryz.underlying49 rfl HZi.out) rfl ?_
    exact ⟨by rw [(HR2.out HE.out).1, (HR2.out HE.out).2, HZE.out] <;> rfl, Hw1.out.bel⟩
open Go.RowKit
set_option maxRecDepth 100000

structure Pd (w : World) (t g t2 g2 : Nat) (bs : List Kept) (W : World) (T : List Lst) (r : Option Nat) (c : Nat) (xs : List It) (T2 : List Lst) (r2 : Option Nat) (c2 : Nat) (ys : List It) : Prop where
  s1 : Sn w t g bs W T r c xs
  rt : RTb W t2 T2
  rl : RL W g2 r2 c2 ys
  ne2 : ¬ On g2 r2 t2
  town2 : w.heap.size ≤ t2
  own2 : ∀ k, On g2 r2 k → w.heap.size ≤ k
  keep2 : ∀ p ∈ bs, ¬ On g2 r2 p.1 ∧ p.1 ≠ t2
  dis : ∀ k, OnT g r t k → ¬ OnT g2 r2 t2 k
theorem Sn.ont_lt' {w : World} {t g : Nat} {bs : List Kept} {W : World} {T : List Lst} {r : Option Nat} {c : Nat} {xs : List It} (H : Sn w t g bs W T r c xs) {k : Nat} (h : OnT g r t k) : k < W.heap.size := by
  rcases h with h | rfl
  · exact H.sys.led.on_lt k h
  · exact H.tbl.lt
theorem Sn.ont_ge' {w : World} {t g : Nat} {bs : List Kept} {W : World} {T : List Lst} {r : Option Nat} {c : Nat} {xs : List It} (H : Sn w t g bs W T r c xs) {k : Nat} (h : OnT g r t k) : w.heap.size ≤ k := by
  rcases h with h | rfl
  · exact H.own k h
  · exact H.town
section
variable {w : World} {t g t2 g2 : Nat} {bs : List Kept} {W W' : World} {T : List Lst} {r : Option Nat} {c : Nat} {xs : List It} {T2 : List Lst} {r2 : Option Nat} {c2 : Nat} {ys : List It}
theorem Pd.below (H : Pd w t g t2 g2 bs W T r c xs T2 r2 c2 ys) (hb : Below W.heap.size W W') : Pd w t g t2 g2 bs W' T r c xs T2 r2 c2 ys :=
  ⟨H.s1.below hb, H.rt.below hb, H.rl.below hb, H.ne2, H.town2, H.own2, H.keep2, H.dis⟩
theorem Pd.drewN (H : Pd w t g t2 g2 bs W T r c xs T2 r2 c2 ys) (k : Nat) : Pd w t g t2 g2 bs (W.drewN k) T r c xs T2 r2 c2 ys := H.below (below_drewN (Below.refl _ _) k)
theorem Pd.pop {b : Kept} (H : Pd w t g t2 g2 (b :: bs) W T r c xs T2 r2 c2 ys) : Pd w t g t2 g2 bs W T r c xs T2 r2 c2 ys :=
  ⟨H.s1.pop, H.rt, H.rl, H.ne2, H.town2, H.own2, fun p hp => H.keep2 p (List.mem_cons_of_mem _ hp), H.dis⟩
theorem Pd.lt2 (H : Pd w t g t2 g2 bs W T r c xs T2 r2 c2 ys) {k : Nat} (h : OnT g2 r2 t2 k) : k < W.heap.size := by
  rcases h with h | rfl
  · exact H.rl.on_lt k h
  · exact H.rt.lt
theorem Pd.ge2 (H : Pd w t g t2 g2 bs W T r c xs T2 r2 c2 ys) {k : Nat} (h : OnT g2 r2 t2 k) : w.heap.size ≤ k := by
  rcases h with h | rfl
  · exact H.own2 k h
  · exact H.town2
theorem Pd.box (H : Pd w t g t2 g2 bs W T r c xs T2 r2 c2 ys) (C : Array Value) (ty : TypeId) : Pd w t g t2 g2 ((W.heap.size, C, ty) :: bs) (W.alloc (.cells C ty)) T r c xs T2 r2 c2 ys := by
  have H' := H.below ((Below.refl _ _).alloc (Nat.le_refl _) (.cells C ty))
  refine ⟨H.s1.box C ty, H'.rt, H'.rl, H.ne2, H.town2, H.own2, fun p hp => ?_, H.dis⟩
  rcases List.mem_cons.1 hp with rfl | hp
  · exact ⟨fun e => by have := H.rl.on_lt _ e; omega, fun e => by have := H.rt.lt; dsimp only at e; omega⟩
  · exact H.keep2 p hp
theorem Pd.do1 (H : Pd w t g t2 g2 bs W T r c xs T2 r2 c2 ys) (q : MRq) :
    Calls Tryz.prog 27 #[.pointer (some ⟨t, 0, none⟩), .pointer (some ⟨g, 0, none⟩), .agg (rqC q).toArray] W fun E W' => E = .returned (.tuple #[.agg (lrC (tR T xs q).1.1).toArray, .bool (tR T xs q).1.2]) ∧ ∃ r' c', Pd w t g t2 g2 bs W' (tR T xs q).2.1 r' c' (tR T xs q).2.2 T2 r2 c2 ys :=
  (sdo_any H.s1.tbl H.s1.sys H.s1.ne (Nat.le_trans H.s1.low H.s1.town) q).mono fun E W' h => by
    obtain ⟨he, r', c', ht, hs, hne, ho⟩ := h
    have hlow := H.s1.low
    have hb1 : Below w.heap.size W W' := ho.1.below H.s1.bel.size fun k hk => H.s1.ont_ge' hk
    have s1 : Sn w t g bs W' (tR T xs q).2.1 r' c' (tR T xs q).2.2 := by
      refine ⟨ht, hs, hne, H.s1.town, fun k hk => ?_, H.s1.bel.trans hb1, hlow, fun p hp => ?_⟩
      · rcases ho.2 k (.inl hk) with e | e
        · exact H.s1.ont_ge' e
        · exact Nat.le_trans H.s1.bel.size e
      · obtain ⟨h1, h2, h3⟩ := H.s1.keep p hp
        have hlt := (Array.getElem?_eq_some_iff.1 h1).1
        refine ⟨(ho.1.block _ hlt (by rintro (e | e); exact h2 e; exact h3 e)).trans h1, fun e => ?_, h3⟩
        rcases ho.2 p.1 (.inl e) with (e' | e') | e'
        · exact h2 e'
        · exact h3 e'
        · omega
    have hk2 : ∀ k, OnT g2 r2 t2 k → W'.heap[k]? = W.heap[k]? := fun k hk => ho.1.block k (H.lt2 hk) fun h1 => H.dis k h1 hk
    refine ⟨he, r', c', s1, H.rt.kept (hk2 _ (.inr rfl)), H.rl.kept (fun k hk => hk2 k (.inl hk)), H.ne2, H.town2, H.own2, H.keep2, fun k hk h2 => ?_⟩
    rcases ho.2 k hk with e | e
    · exact H.dis k e h2
    · have := H.lt2 h2
      omega
theorem Pd.do2 (H : Pd w t g t2 g2 bs W T r c xs T2 r2 c2 ys) (hrise : Rise ys) (hlen : ys.length ≤ 64) (hsm : ∀ p ∈ ys, p.2.size ≤ 128) (q : MRq) :
    Calls Tryz.prog 28 #[.pointer (some ⟨t2, 0, none⟩), .pointer (some ⟨g2, 0, none⟩), .agg (rqC q).toArray] W fun E W' => E = .returned (.tuple #[.agg (lrC (tR T2 ys q).1.1).toArray, .bool (tR T2 ys q).1.2]) ∧ ∃ r' c', Pd w t g t2 g2 bs W' T r c xs (tR T2 ys q).2.1 r' c' (tR T2 ys q).2.2 :=
  (qdo_any H.rt H.rl H.ne2 hrise hlen hsm q).mono fun E W' h => by
    obtain ⟨he, r', c', ht, hl, hne, ho⟩ := h
    have hlow := H.s1.low
    have hz := H.s1.bel.size
    have hb1 : Below w.heap.size W W' := ho.1.below hz fun k hk => H.ge2 hk
    have hk1 : ∀ k, OnT g r t k → W'.heap[k]? = W.heap[k]? := fun k hk => ho.1.block k (H.s1.ont_lt' hk) fun h1 => H.dis k hk h1
    have s1 : Sn w t g bs W' T r c xs := by
      refine ⟨H.s1.tbl.kept (hk1 _ (.inr rfl)), H.s1.sys.off (fun k h4 => ho.1.block k (by omega) fun h1 => by have := H.ge2 h1; omega) (fun k hk => hk1 k (.inl hk)), H.s1.ne, H.s1.town, H.s1.own, H.s1.bel.trans hb1, hlow, fun p hp => ?_⟩
      obtain ⟨h1, h2⟩ := H.s1.keep p hp
      obtain ⟨h3, h4⟩ := H.keep2 p hp
      exact ⟨(ho.1.block _ (Array.getElem?_eq_some_iff.1 h1).1 (by rintro (e | e); exact h3 e; exact h4 e)).trans h1, h2⟩
    refine ⟨he, r', c', s1, ht, hl, hne, H.town2, fun k hk => ?_, fun p hp => ⟨fun e => ?_, (H.keep2 p hp).2⟩, fun k hk h2 => ?_⟩
    · rcases ho.2 k (.inl hk) with e | e
      · exact H.ge2 e
      · exact Nat.le_trans hz e
    · rcases ho.2 p.1 (.inl e) with (e' | e') | e'
      · exact (H.keep2 p hp).1 e'
      · exact (H.keep2 p hp).2 e'
      · have := (Array.getElem?_eq_some_iff.1 (H.s1.keep p hp).1).1
        omega
    · rcases ho.2 k h2 with e | e
      · exact H.dis k hk e
      · have := H.s1.ont_lt' hk
        omega
end
theorem pd_of {w W3 W4 : World} {t t2 : Nat} {T : List Lst} (hv : Vars w) (hb : Below w.heap.size w W3) (h1 : Tbl W3 t T) (h2 : RTb W3 t2 T) (hn : t ≠ t2) (ht : w.heap.size ≤ t) (ht2 : w.heap.size ≤ t2) (hs : Sys W4 W3.heap.size none 0 []) (hb4 : Below W3.heap.size W3 W4) :
    Pd w t W3.heap.size t2 W4.heap.size [] (W4.alloc (.cells #[.slice none 0 0] 56)) T none 0 [] T none 0 [] := by
  have hb5 : Below W4.heap.size W4 (W4.alloc (.cells #[.slice none 0 0] 56)) := (Below.refl _ _).alloc (Nat.le_refl _) _
  have hz := hb.size
  have hz4 := hb4.size
  have l1 := h1.lt
  have l2 := h2.lt
  have hg := hs.led.lt
  refine ⟨⟨(h1.below hb4).below hb5, hs.below hb5, ?_, ht, ?_, (hb.trans (hb4.mono hz)).trans (hb5.mono (by omega)), hv.low, fun p hp => (by cases hp)⟩, (h2.below hb4).below hb5, ⟨heap_alloc_new W4 _, ⟨rfl, rfl⟩⟩, ?_, ht2, ?_, fun p hp => (by cases hp), ?_⟩
  · rintro (rfl | e)
    · omega
    · cases e
  · rintro k (rfl | e)
    · omega
    · cases e
  · rintro (rfl | e)
    · omega
    · cases e
  · rintro k (rfl | e)
    · omega
    · cases e
  · rintro k ((rfl | e) | rfl) ((h | e') | h)
    all_goals first | omega | (cases e; done) | (cases e'; done)
/-- What is appended to an empty row of one's own. -/
theorem app_lss {w0 w : World} {ops : Array Oper} {rest : List Oper} {o : Oper} {a : Act} {Q : Exit → Act → World → Prop} (hgd : o.guard = none) (s x : Operand)
    (ho : o.op = .call { callee := .builtin .append, args := #[s, x], argTypes := #[91, 91] }) {v : Value} (hs : a.eval s = v) (hown : w.ownsRow w0.heap.size 47 3 v 0 []) (hb : Below w0.heap.size w0 w)
    {A : Option Addr} {n c : Nat} {T : List Lst} (hx : a.eval x = .slice A n c) (hn : n = T.length) (hI : Lss w A T) (hc : A = none → c = 0) (hl : n ≤ 1000)
    (h : ∀ A' c' w', Lss w' A' T → Below w0.heap.size w0 w' → wpList Tryz.prog ops Q rest (a.put o.dst (.slice A' n c')) w') : wpList Tryz.prog ops Q (o :: rest) a w := by
  obtain ⟨i0, hi0, hz0, hzs, hzb⟩ := info_parts Tryz.info47
  have hfin : ∀ (v' : Value) (w' : World), w'.ownsRow w0.heap.size 47 3 v' T.length (tbC T) → ∃ A' c', v' = .slice A' T.length c' ∧ Lss w' A' T := fun v' w' hq => by
    by_cases hp : 0 < T.length
    · obtain ⟨b, c', e, h1, _⟩ := lss_of_own hp hq
      exact ⟨_, _, e, h1⟩
    · obtain ⟨_, hq⟩ := hq
      rcases hq with ⟨rfl, hz⟩ | ⟨b, cap, cur, rfl, _⟩
      · exact ⟨none, 0, by rw [hz], fun h => absurd h hp⟩
      · exact ⟨_, _, rfl, fun h => absurd h hp⟩
  refine wpList_plain hgd fun K hK => ?_
  cases A with
  | none =>
    have hc0 : c = 0 := hc rfl
    have hn0 : T = [] := by
      rcases Nat.eq_zero_or_pos T.length with h | h
      · exact List.length_eq_zero_iff.1 h
      · obtain ⟨b, o, hx, _⟩ := hI h
        cases hx
    subst hc0 hn0
    subst hn
    have hrun := run_append_owned_none (P := Tryz.prog) (w := w) w0.heap.size 91 o.type 47 i0 3 Tryz.underlying91 hi0 v 0 [] hown
    have hown2 : w.ownsRow w0.heap.size 47 3 v ([] : List Lst).length (tbC []) := hown
    obtain ⟨A', c', he, hr⟩ := hfin _ _ hown2
    unfold Oper.wp
    simp only [List.length_nil] at hx
    simp [execOp, ho, resolve, invoke, builtin, hs, hx, hrun, Result.andThen]
    rw [he]
    exact hK _ _ (h A' c' w hr hb)
  | some ad =>
    subst hn
    refine wp_append_own w s x 91 ho w0.heap.size 47 i0 _ 3 32 Tryz.underlying91 hi0 hz0 hzs hzb (by simp [Value.cells]) (by omega) v 0 [] hs hown ad T.length c (tbC T) hx (tbC_length T) (fun j u hj => ?_) (tbC_one T) (by unfold maxLen; omega) (by omega) hb.size fun v' w' h2 h3 _ => ?_
    · have hjl := (List.getElem?_eq_some_iff.1 hj).1
      rw [tbC_length] at hjl
      obtain ⟨b, o, he, hbl, hcs⟩ := hI (by omega)
      injection he with he
      subst he
      rw [Addr.add_lit]
      exact Lss.cell hcs j u hj
    · rw [Nat.zero_add, List.nil_append] at h2
      obtain ⟨A', c', rfl, hr⟩ := hfin _ _ h2
      exact hK _ _ (h A' c' w' hr (hb.grown h3 hb.size fun k hk => (hown.lt k hk).1))
end Go.Proofs.YtpageppjngbnpaaGreatDoor
