/- Laws and walks. -/
import Derived.Test.YtllbbcifcbkgeaaGreatDoorF25a
import Derived.Test.YtllbbcifcbkgeaaGreatDoorF27a
set_option maxHeartbeats 16000000
set_option maxRecDepth 100000
namespace Go.Proofs.YtllbbcifcbkgeaaGreatDoor.Sh
open Go.RowKit
theorem body_any (x : MAct) (n : Nat) (w : World) (hx : x.Ok) (hql : x.q.length <= 1000) (hk : KIs w) (h0 : 0 < w.heap.size) (hoc : Oc w x.qa x.q) : Calls Tryz.prog 39 #[.agg (actC x).toArray, .int .i64 (n : Int)] w fun E w' => BodyP w (aBody x n) E w' := by
 have h6 : x.kind % 6 < 6 := Nat.mod_lt _ (by decide)
 by_cases h : x.kind % 6 = 0
 ·exact body_1 x n w hx hk h0 h
 by_cases h : x.kind % 6 = 1
 ·exact body_2 x n w hx hk h0 h
 by_cases h : x.kind % 6 = 2
 ·exact body_3 x n w hx hk h0 h
 by_cases h : x.kind % 6 = 3
 ·exact body_4 x n w hx hql hk h0 hoc h
 by_cases h : x.kind % 6 = 4
 ·exact body_5 x n w hx hk h0 h
 ·exact body_6 x n w hx hk h0 (by omega)
def As (W : World) (A : Option Addr) (l : List MAct) : Prop := (∀ x ∈ l, x.Ok /\ Oc W x.qa x.q) /\ (0 < l.length -> ∃ g o, A = some ⟨g, o, none⟩ /\ g < W.heap.size /\ ∀ (j : Nat) (x : MAct), l[j]? = some x -> W.rangeAt g (o + j * 8) (actC x))
theorem As.below {W W' : World} {A : Option Addr} {l : List MAct} (h : As W A l) (hb : Below W.heap.size W W') : As W' A l :=
 ⟨fun x hx => ⟨(h.1 x hx).1, (h.1 x hx).2.below hb⟩, fun hn => let ⟨g, o, e, hl, hc⟩ := h.2 hn; ⟨g, o, e, Nat.lt_of_lt_of_le hl hb.size, fun j m hm => rangeAt_below' (hc j m hm) hl W' hb⟩⟩
theorem actC_q {W : World} {g o : Nat} {x : MAct} (h : W.rangeAt g o (actC x)) : W.cell? ⟨g, o + 7, none⟩ = some (.slice x.qa x.q.length x.qc) := h 7 _ rfl
theorem odd_any (n : Nat) (hn : n < 256) (w : World) : Calls Tryz.prog 38 #[.int .u8 (n : Int)] w fun E w' => E = .returned (.int .i64 ((3 + 2 * (n % 5) : Nat) : Int)) /\ w = w' := by
 obtain ⟨k, hk⟩ : ∃ k, k = n % 5 := ⟨_, rfl⟩
 have ht : Int.tmod (n : Int) 5 = (k : Int) := by rw [Int.tmod_eq_emod_of_nonneg (by omega)]; omega
 have h1 : IntKind.i64.wrap (k : Int) = (k : Int) := by rw [IntKind.wrap_i64]; omega
 have h2 : IntKind.i64.wrap (2 * (k : Int)) = 2 * (k : Int) := by rw [IntKind.wrap_i64]; omega
 have h3 : IntKind.i64.wrap (3 + 2 * (k : Int)) = 3 + 2 * (k : Int) := by rw [IntKind.wrap_i64]; omega
 rw [<- hk]
 clear hk
 go_enter Tryz.func38, Tryz.ntmps38
 go_wp2
 go_ret
 exact ⟨by simp, rfl⟩
theorem fewA_any (A : Option Addr) (c : Nat) (l : List MAct) (w : World) (h : As w A l) (hl : l.length <= 4398046511104) :
  Calls Tryz.prog 11 #[.slice A l.length c] w fun E w' => ∃ z, E = .returned (.bool z) /\ (z = true -> l.length <= 100 /\ ∀ x ∈ l, x.q.length <= 20) /\ w = w' := by
 have HM := iq h
 obtain ⟨n, hn⟩ : ∃ n, n = l.length := ⟨_, rfl⟩
 have HN := iq hn
 rw [<- hn] at hl ⊢
 clear h hn
 go_enter Tryz.func11, Tryz.ntmps11
 by_cases h30 : (n : Int) > 100
 ·have h30' : 100 < n := by omega
  go_wp2_with fail
  go_ret
  exact ⟨false, rfl, fun x => (by cases x), rfl⟩
 ·have h30' : ¬ 100 < n := by omega
  have H30 : Hid (n <= 100) := iq (by omega)
  go_wp2_with fail
  go_loopw [3] (fun v3 wr => ∃ j : Nat, j <= n /\ v3 = .int .i64 (j : Int) /\ Hid (∀ m ∈ l.take j, m.q.length <= 20) /\ Hid (wr = w)) (fun v3 _ => n - (intOf v3).toNat)
  case atStart => exact ⟨0, by omega, rfl, iq (fun _ h => by simp at h), iq rfl⟩
  case round =>
   obtain ⟨j, hj, rfl, HQ, HW⟩ := hrel
   by_cases hjj : j < n
   ·have hdec : decide ((j : Int) < (n : Int)) = true := decide_eq_true (by omega)
    have hj0 : (0 : Int) <= (j : Int) := by omega
    have hjn : (j : Int) < (n : Int) := by omega
    have htn : ((j : Int)).toNat = j := by omega
    have hw1 : IntKind.i64.wrap ((j : Int) + 1) = (j : Int) + 1 := by rw [IntKind.wrap_i64]; omega
    obtain ⟨m, hm⟩ : ∃ m, l[j]? = some m := ⟨_, List.getElem?_eq_getElem (by rw [<- HN.out]; omega)⟩
    obtain ⟨g, o, rfl, _, hc⟩ := HM.out.2 (by rw [<- HN.out]; omega)
    have hq := actC_q (hc j m hm)
    rw [<- HW.out] at hq
    obtain ⟨k, hk⟩ : ∃ k, k = m.q.length := ⟨_, rfl⟩
    rw [<- hk] at hq
    have HT : Hid (k <= 20 -> ∀ m ∈ l.take (j + 1), m.q.length <= 20) := iq fun hle x hx => by
     rw [List.take_add_one, hm] at hx
     rcases List.mem_append.1 hx with hx | hx
     ·exact HQ.out x hx
     ·simp at hx; subst hx; omega
    clear hm hc hk HQ
    by_cases hk20 : (k : Int) > 20
    ·have hk' : 20 < k := by omega
     go_wp2_with fail
     go_ret
     exact ⟨false, rfl, fun x => (by cases x), HW.out.symm⟩
    ·have hk' : ¬ 20 < k := by omega
     have HQ2 := iq (HT.out (by omega))
     go_wp2_with fail
     go_roundw
     case measure => simp [intOf] <;> omega
     case rel => exact ⟨j + 1, by omega, by go_num, HQ2, HW⟩
   ·obtain rfl : j = n := by omega
    go_wp2_with fail
    go_ret
    exact ⟨true, rfl, fun _ => ⟨H30.out, fun m hm => HQ.out m (by rw [HN.out, List.take_length]; exact hm)⟩, HW.out.symm⟩
open Go.RowKit
def ksC (ks : List (List Nat)) : List Value := ks.flatMap u64s
def Ks (ks : List (List Nat)) : Prop := ∀ v ∈ ks, v.length = 11
theorem ksC_get {ks : List (List Nat)} (h : Ks ks) {o : Nat} {v : List Nat} (ho : ks[o]? = some v) : ∀ k u, (u64s v)[k]? = some u -> (ksC ks)[o * 11 + k]? = some u := by
 induction ks generalizing o with
 | nil => simp at ho
 | cons x ks ih =>
  intro k u hu
  have hx := h x (by simp)
  rw [ksC, List.flatMap_cons]
  cases o with
  | zero =>
   simp at ho; subst ho
   rw [List.getElem?_append_left (by have := (List.getElem?_eq_some_iff.1 hu).1; omega)]
   simpa using hu
  | succ o =>
   simp at ho
   rw [List.getElem?_append_right (by rw [u64s_length]; omega), u64s_length, hx]
   have := ih (fun t ht => h t (by simp [ht])) ho k u hu
   rwa [show (o + 1) * 11 + k - 11 = o * 11 + k by omega]
theorem ksC_set {ks : List (List Nat)} (h : Ks ks) {o : Nat} {v : List Nat} (ho : ks[o]? = some v) (k x : Nat) (hk : k < 11) : (ksC ks).set (o * 11 + k) (.int .u64 (x : Int)) = ksC (ks.set o (v.set k x)) := by
 induction ks generalizing o with
 | nil => simp at ho
 | cons y ks ih =>
  have hy := h y (by simp)
  rw [ksC, List.flatMap_cons]
  cases o with
  | zero =>
   simp at ho; subst ho
   rw [Nat.zero_mul, Nat.zero_add, List.set_append_left _ _ (by rw [u64s_length]; omega), List.set_cons_zero, ksC, List.flatMap_cons]
   congr 1
   simp [u64s, List.map_set]
  | succ o =>
   simp at ho
   rw [List.set_append_right _ _ (by rw [u64s_length]; omega), u64s_length, hy, show (o + 1) * 11 + k - 11 = o * 11 + k by omega]
   have := ih (fun t ht => h t (by simp [ht])) ho
   rw [ksC] at this
   rw [this, List.set_cons_succ, ksC, ksC, List.flatMap_cons]
theorem Ks.set {ks : List (List Nat)} (h : Ks ks) (o : Nat) {v : List Nat} (hv : v.length = 11) : Ks (ks.set o v) := fun x hx => by
 rcases List.mem_or_eq_of_mem_set hx with hx | rfl
 ·exact h x hx
 ·exact hv
theorem Ks.at {ks : List (List Nat)} (h : Ks ks) {o : Nat} {v : List Nat} (ho : ks[o]? = some v) : v.length = 11 := h v (List.mem_of_getElem? ho)
def mix (a c : List Nat) (k : Nat) : List Nat := (List.range 11).map fun i => if i < k then max (a.getD i 0) (c.getD i 0) else a.getD i 0
theorem mix_length (a c : List Nat) (k : Nat) : (mix a c k).length = 11 := by simp [mix]
theorem mix_zero {a : List Nat} (h : a.length = 11) (c : List Nat) : mix a c 0 = a := by
 apply List.ext_getElem?
 intro i
 by_cases hi : i < 11
 ·simp [mix, hi, h]
 ·rw [List.getElem?_eq_none (by simp [mix]; omega), List.getElem?_eq_none (by omega)]
theorem mix_get (a c : List Nat) {k : Nat} (hk : k < 11) : (mix a c k)[k]? = some (a.getD k 0) := by simp [mix, hk]
theorem mix_next (a c : List Nat) {k : Nat} (hk : k < 11) : (mix a c k).set k (max (a.getD k 0) (c.getD k 0)) = mix a c (k + 1) := by
 apply List.ext_getElem?
 intro i
 rw [List.getElem?_set]
 by_cases e : k = i
 ·subst e; simp [mix, hk]
 ·rw [if_neg e]
  by_cases hi : i < 11
  ·simp only [mix, List.getElem?_map, List.getElem?_range hi, Option.map_some]
   by_cases h : i < k
   ·rw [if_pos h, if_pos (by omega)]
   ·rw [if_neg h, if_neg (by omega)]
  ·rw [List.getElem?_eq_none (by simp [mix]; omega), List.getElem?_eq_none (by simp [mix]; omega)]
structure MWorld where
 ks : List (List Nat)
 all : List MMsg
def mOf (n : Nat) (S : MWorld) (x : MAct) : MMsg :=
 { origin := ((x.who % n + 1 : Nat) : Int), number := ((S.ks.getD (x.who % n) []).getD (x.who % n) 0) + 1, deps := S.ks.getD (x.who % n) [], body := aBody x n, tag := noTag }
open Classical in
noncomputable def stepA (n : Nat) (S : MWorld) (x : MAct) : MWorld :=
 let o := x.who % n
 let v := S.ks.getD o []
 if x.meet then { S with ks := S.ks.set o (mix v (S.ks.getD (x.other % n) []) 11) }
 else if (mOf n S x).may then ⟨S.ks.set o (v.set o (v.getD o 0 + 1)), S.all ++ [tagM (mOf n S x)]⟩ else S
noncomputable def acted (n : Nat) (l : List MAct) : MWorld := l.foldl (stepA n) ⟨List.replicate n z11, []⟩
theorem acted_snoc (n : Nat) (l : List MAct) (x : MAct) : acted n (l ++ [x]) = stepA n (acted n l) x := by simp [acted]
structure MWorld.Ok (S : MWorld) (n i : Nat) : Prop where
 len : S.ks.length = n
 ks : Ks S.ks
 small : ∀ v ∈ S.ks, ∀ x ∈ v, x <= i
 few : S.all.length <= i
theorem ok_zero (n : Nat) : (acted n []).Ok n 0 := by
 refine ⟨by simp [acted], fun v hv => ?_, fun v hv x hx => ?_, by simp [acted]⟩
 ·simp [acted] at hv; rw [hv.2]; rfl
 ·simp [acted] at hv; rw [hv.2] at hx; simp [z11] at hx; omega
theorem getD_le {v : List Nat} {i : Nat} (h : ∀ x ∈ v, x <= i) (k : Nat) : v.getD k 0 <= i := by
 rw [List.getD_eq_getElem?_getD]
 cases e : v[k]? with
 | none => simp
 | some x => simpa using h x (List.mem_of_getElem? e)
theorem MWorld.Ok.row {S : MWorld} {n i : Nat} (h : S.Ok n i) {o : Nat} (ho : o < n) : S.ks[o]? = some (S.ks.getD o []) /\ (S.ks.getD o []).length = 11 /\ ∀ x ∈ S.ks.getD o [], x <= i := by
 have h1 : S.ks[o]? = some (S.ks.getD o []) := by
  rw [List.getD_eq_getElem?_getD, List.getElem?_eq_getElem (by rw [h.len]; exact ho)]; rfl
 exact ⟨h1, h.ks.at h1, h.small _ (List.mem_of_getElem? h1)⟩
theorem MWorld.Ok.step {S : MWorld} {n i : Nat} (h : S.Ok n i) (hn : 0 < n) (x : MAct) : (stepA n S x).Ok n (i + 1) := by
 have ho : x.who % n < n := Nat.mod_lt _ hn
 have hj : x.other % n < n := Nat.mod_lt _ hn
 obtain ⟨_, h2, h3⟩ := h.row ho
 obtain ⟨_, _, h6⟩ := h.row hj
 rw [stepA]
 by_cases hm : x.meet
 ·rw [if_pos hm]
  refine ⟨by simpa using h.len, h.ks.set _ (mix_length _ _ _), fun v hv y hy => ?_, Nat.le_succ_of_le h.few⟩
  rcases List.mem_or_eq_of_mem_set hv with hv | rfl
  ·exact Nat.le_succ_of_le (h.small v hv y hy)
  ·simp only [mix, List.mem_map, List.mem_range] at hy
   obtain ⟨k, hk, rfl⟩ := hy
   rw [if_pos hk]
   have := getD_le h3 k
   have := getD_le h6 k
   omega
 ·rw [if_neg hm]
  by_cases hy : (mOf n S x).may
  ·rw [if_pos hy]
   refine ⟨by simpa using h.len, h.ks.set _ (by simpa using h2), fun v hv y hy => ?_, by simp; exact h.few⟩
   rcases List.mem_or_eq_of_mem_set hv with hv | rfl
   ·exact Nat.le_succ_of_le (h.small v hv y hy)
   ·rcases List.mem_or_eq_of_mem_set hy with hy | rfl
    ·exact Nat.le_succ_of_le (h3 y hy)
    ·have := getD_le h3 (x.who % n); omega
  ·rw [if_neg hy]
   exact ⟨h.len, h.ks, fun v hv y hy => Nat.le_succ_of_le (h.small v hv y hy), Nat.le_succ_of_le h.few⟩
theorem ok_acted (n : Nat) (hn : 0 < n) (l : List MAct) : ∀ i, i <= l.length -> (acted n (l.take i)).Ok n i
 | 0, _ => ok_zero n
 | i + 1, hi => by
  rw [List.take_add_one, List.getElem?_eq_getElem (by omega), Option.toList_some, acted_snoc]
  exact (ok_acted n hn l i (by omega)).step hn _
open Go.RowKit
theorem Tryz.infoVec : (Tryz.prog.info? 27).map (fun i => (i.zero, i.size, i.bytes)) = some (some (.agg (u64s z11).toArray), 11, 88) := by kernel_rfl
theorem ksC_zero : ∀ n : Nat, ksC (List.replicate n z11) = List.replicate (n * 11) (.int .u64 0)
 | 0 => rfl
 | n + 1 => by
  have ih := ksC_zero n
  rw [ksC] at ih ⊢
  rw [List.replicate_succ, List.flatMap_cons, ih, show u64s z11 = List.replicate 11 (.int .u64 0) from rfl, List.replicate_append_replicate]
  congr 1; omega
theorem made_vecs (n : Nat) : madeCells (Value.agg (u64s z11).toArray).cells (n * 11) = (ksC (List.replicate n z11)).toArray := by
 have e : (Value.agg (u64s z11).toArray).cells = (List.replicate 11 (Value.int .u64 0)).toArray := rfl
 have h : ∀ j : Nat, j < 11 -> (List.replicate 11 (Value.int .u64 0)).toArray[j]! = Value.int .u64 0 := fun j hj => by
  rw [getElem!_pos _ _ (by simpa using hj), List.getElem_toArray, List.getElem_replicate]
 rw [e, ksC_zero]
 apply Array.ext
 ·simp [madeCells]
 ·intro i h1 h2
  simp only [madeCells, Array.getElem_map, Array.getElem_range]
  have h3 := h (i % 11) (Nat.mod_lt _ (by decide))
  have e3 : (List.replicate 11 (Value.int .u64 0)).toArray.size = 11 := rfl
  rw [e3, h3]
  simp
theorem make_vecs (n : Nat) (hn : n <= 11) (w : World) : (Instr.makeSlice 33 (.int .i64 (n : Int)) (.int .i64 (n : Int))).run Tryz.prog w = .ok (.slice (some ⟨w.heap.size, 0, none⟩) n n) (w.alloc (.cells (ksC (List.replicate n z11)).toArray 27)) := by
 obtain ⟨i0, hi, hz0, hz1, hz2⟩ := info_parts Tryz.infoVec
 have hr := run_make (P := Tryz.prog) w 33 27 i0 _ Tryz.underlying33 hi hz0 .i64 .i64 (n : Int) (n : Int) (by omega) (Int.le_refl _) (by rw [hz2]; omega) (by omega)
 rw [hz1] at hr
 simp only [Int.toNat_natCast] at hr
 rw [made_vecs n] at hr
 exact hr
theorem wpList_make_ln {P : Program} (w : World) {ops : Array Oper} {rest : List Oper} {o : Oper} {a : Act} {Q : Exit -> Act -> World -> Prop}
  (hg : o.guard = none) (t : TypeId) (l c : Operand) (hop : o.op = Op.makeSlice t l c) (x y v : Value) (w' : World) (hl : a.eval l = x) (hc : a.eval c = y) (hrun : (Instr.makeSlice t x y).run P w = .ok v w')
  (hK : wpList P ops Q rest (a.put o.dst v) w') : wpList P ops Q (o :: rest) a w := by
 refine wpList_plain hg fun K hK' => ?_
 unfold Oper.wp
 simp only [execOp, hop, hl, hc, Sem.run_bind, hrun, Result.andThen_ok]
 exact hK' _ _ hK
def WL (b gk n : Nat) (ks : List (List Nat)) (A : Option Addr) (c : Nat) (all : List MMsg) : List Thing :=
 [blkT b #[.slice (some ⟨gk, 0, none⟩) n n, .slice A all.length c] 35, blkT gk (ksC ks).toArray 27, mrT A c all, qsT all]
def ActsP (w : World) (n : Nat) (l : List MAct) (E : Ending) (w' : World) : Prop := ∃ b gk A c all, E = .returned (.pointer (some ⟨b, 0, none⟩)) /\ all.map MMsg.bare = (acted n l).all.map MMsg.bare /\ Fr w w' (WL b gk n (acted n l).ks A c all)
def zeroAct : MAct := ⟨0, 0, false, 0, 0, 0, 0, none, 0, []⟩
theorem zero_act (w : World) : (zeroValue 87).run Tryz.prog w = .ok (.agg (actC zeroAct).toArray) w := by kernel_rfl
theorem actC_length (x : MAct) : (actC x).length = 8 := rfl
theorem info_act (x : MAct) : (Tryz.prog.info? 87).map (·.size) = some (actC x).length := by rw [actC_length]; kernel_rfl
theorem one_actC (x : MAct) : ∀ v ∈ actC x, v.oneCell' = true := by
 intro v hv
 simp [actC] at hv
 rcases hv with rfl | rfl | rfl | rfl | rfl | rfl | rfl | rfl <;> rfl
def meetK (S : MWorld) (o j k : Nat) : List (List Nat) := S.ks.set o (mix (S.ks.getD o []) (S.ks.getD j []) k)
theorem ks_cell {ks : List (List Nat)} (h : Ks ks) {o k x : Nat} {v : List Nat} (ho : ks[o]? = some v) (hk : v[k]? = some x) : (ksC ks)[o * 11 + k]? = some (.int .u64 (x : Int)) :=
 ksC_get h ho k _ (by rw [u64s, List.getElem?_map, hk]; rfl)
theorem getD_some {v : List Nat} {k : Nat} (h : k < v.length) : v[k]? = some (v.getD k 0) := by rw [List.getD_eq_getElem?_getD, List.getElem?_eq_getElem h]; rfl
theorem meet_zero {S : MWorld} {n i o j : Nat} (h : S.Ok n i) (ho : o < n) : meetK S o j 0 = S.ks := by
 obtain ⟨h1, h2, _⟩ := h.row ho
 rw [meetK, mix_zero h2]
 apply List.ext_getElem?
 intro t
 rw [List.getElem?_set]
 by_cases e : o = t
 ·subst e; rw [if_pos rfl, if_pos (by rw [h.len]; exact ho), h1]
 ·rw [if_neg e]
theorem meet_ks {S : MWorld} {n i o j k : Nat} (h : S.Ok n i) : Ks (meetK S o j k) := h.ks.set _ (mix_length _ _ _)
theorem meet_own {S : MWorld} {n i o j k : Nat} (h : S.Ok n i) (ho : o < n) (hk : k < 11) : (ksC (meetK S o j k))[o * 11 + k]? = some (.int .u64 (((S.ks.getD o []).getD k 0 : Nat) : Int)) :=
 ks_cell (meet_ks h) (by rw [meetK, List.getElem?_set_self (by rw [h.len]; exact ho)]) (mix_get _ _ hk)
theorem meet_other {S : MWorld} {n i o j k : Nat} (h : S.Ok n i) (ho : o < n) (hj : j < n) (hk : k < 11) : (ksC (meetK S o j k))[j * 11 + k]? = some (.int .u64 (((S.ks.getD j []).getD k 0 : Nat) : Int)) := by
 by_cases e : o = j
 ·subst e; exact meet_own h ho hk
 ·obtain ⟨h1, h2, _⟩ := h.row hj
  refine ks_cell (meet_ks h) (v := S.ks.getD j []) (by rw [meetK, List.getElem?_set_ne e]; exact h1) (getD_some (by omega))
theorem meet_next {S : MWorld} {n i o j k : Nat} (h : S.Ok n i) (ho : o < n) (hk : k < 11) : (ksC (meetK S o j k)).set (o * 11 + k) (.int .u64 ((max ((S.ks.getD o []).getD k 0) ((S.ks.getD j []).getD k 0) : Nat) : Int)) = ksC (meetK S o j (k + 1)) := by
 rw [ksC_set (meet_ks h) (v := mix (S.ks.getD o []) (S.ks.getD j []) k) (by rw [meetK, List.getElem?_set_self (by rw [h.len]; exact ho)]) k _ hk, mix_next _ _ hk]
 rw [meetK, meetK, List.set_set]
theorem fill_msg (x y z0 z1 : Value) (D B ZD ZB T : List Value) (hx : x.cells = #[x]) (hy : y.cells = #[y]) (hD : D.length = 11) (hB : B.length = 76) (hZD : ZD.length = 11) (hZB : ZB.length = 76) :
  Instr.fill (fun i => (#[(0, 1), (1, 1), (2, 11), (13, 76), (89, 32)] : Array (Nat × Nat))[i]?) (z0 :: z1 :: (ZD ++ (ZB ++ T))).toArray [(0, x), (1, y), (2, .agg D.toArray), (3, .agg B.toArray)] = some (x :: y :: (D ++ (B ++ T))).toArray := by
 have m1 := fill_mid [] [z0] (z1 :: (ZD ++ (ZB ++ T))) [x] rfl
 have m2 := fill_mid [x] [z1] (ZD ++ (ZB ++ T)) [y] rfl
 have m3 := fill_mid [x, y] ZD (ZB ++ T) D (by rw [hD, hZD])
 have m4 := fill_mid (x :: y :: D) ZB T B (by rw [hB, hZB])
 have ex : (Value.agg [x].toArray).cells = x.cells := by rw [hx]; rfl
 have ey : (Value.agg [y].toArray).cells = y.cells := by rw [hy]; rfl
 rw [ex, show ([] : List Value).length = 0 from rfl] at m1
 rw [ey, show [x].length = 1 from rfl] at m2
 rw [show [x, y].length = 2 from rfl] at m3
 rw [show (x :: y :: D).length = 13 by simp [hD]] at m4
 simp only [List.nil_append, List.cons_append] at m1 m2 m3 m4
 have e3 : (Value.agg D.toArray).cells.size = 11 := by show D.toArray.size = 11; simpa using hD
 have e4 : (Value.agg B.toArray).cells.size = 76 := by show B.toArray.size = 76; simpa using hB
 rw [fill_cons _ _ 0 _ _ 0 1 rfl (by rw [hx]; rfl) (by rw [hx]; simp), m1]
 rw [fill_cons _ _ 1 _ _ 1 1 rfl (by rw [hy]; rfl) (by rw [hy]; simp), m2]
 rw [fill_cons _ _ 2 _ _ 2 11 rfl e3 (by rw [e3]; simp [hZD] <;> omega), m3]
 rw [fill_cons _ _ 3 _ _ 13 76 rfl e4 (by rw [e4]; simp [hD, hZB] <;> omega), m4]
 rfl
theorem build_msg (m : MMsg) (h : m.Wf) (ht : m.tag = noTag) (w : World) : (Instr.build 52 #[(0, .int .i64 m.origin), (1, .int .u64 (m.number : Int)), (2, .agg (u64s m.deps).toArray), (3, .agg (bodyC m.body).toArray)]).run Tryz.prog w = .ok (.agg (msgC m).toArray) w := by
 refine run_build w 52 _ _ ?_
 have e : ∀ parts, Tryz.prog.built 52 parts = Instr.fill (fun i => (#[(0, 1), (1, 1), (2, 11), (13, 76), (89, 32)] : Array (Nat × Nat))[i]?) (msgC zeroMsg).toArray parts := fun _ => by kernel_rfl
 rw [e, show msgC m = .int .i64 m.origin :: .int .u64 (m.number : Int) :: (u64s m.deps ++ (bodyC m.body ++ u8s noTag)) by rw [msgC, ht], msgC]
 exact fill_msg _ _ _ _ _ _ _ _ _ rfl rfl (by rw [u64s_length]; exact h.1) (bodyC_length h.2.1) (by rw [u64s_length]; rfl) (bodyC_length zero_wf)
theorem exec_build4 {P : Program} {o : Oper} {f : Operand -> Value} {w : World} (t : TypeId) (p q r s : Operand) (ho : o.op = .build t #[(0, p), (1, q), (2, r), (3, s)]) (x y z u v : Value) (hp : f p = x) (hq : f q = y) (hr : f r = z) (hs : f s = u) (hrun : (Instr.build t #[(0, x), (1, y), (2, z), (3, u)]).run P w = .ok v w) : (execOp f o).run P w = .ok (.value v) w := by
 unfold execOp
 simp only [ho, List.map_toArray, List.map_cons, List.map_nil, hp, hq, hr, hs, Sem.run_bind, hrun, Result.andThen_ok]
 rfl
theorem mOf_wf (n : Nat) (S : MWorld) (x : MAct) {i : Nat} (h : S.Ok n i) (hn : 0 < n) (ho : (aBody x n).Wf) : (mOf n S x).Wf := ⟨(h.row (Nat.mod_lt _ hn)).2.1, ho, rfl⟩
theorem ownb_at (x : MBody) (A : Option Addr) (c : Nat) : (bodyOwn (x.at A c)).view = (bodyOwn x).view /\ (bodyOwn (x.at A c)).k = (bodyOwn x).k /\ (bodyOwn (x.at A c)).req = (bodyOwn x).req /\ (bodyOwn (x.at A c)).qs = (bodyOwn x).qs /\ (bodyOwn (x.at A c)).dig = (bodyOwn x).dig := by
 by_cases h1 : x.kind = 1
 ·simp [bodyOwn, MBody.at, h1]
 by_cases h2 : x.kind = 2
 ·simp [bodyOwn, MBody.at, h2]
 by_cases h4 : x.kind = 4
 ·simp [bodyOwn, MBody.at, h4]
 by_cases h6 : x.kind = 6
 ·simp [bodyOwn, MBody.at, h6]
 ·simp [bodyOwn, MBody.at, h1, h2, h4, h6]
theorem at_may (m : MMsg) (A : Option Addr) (c : Nat) : (m.at A c).may ↔ m.may := by
 obtain ⟨e1, e2, e3, e4, e5⟩ := ownb_at m.body A c
 show isRepl m.origin = true /\ m.numMay /\ (kindMay m.body = true /\ m.body.view < 1073741824 /\ (m.body.at A c).same (bodyOwn (m.body.at A c))) ↔ _
 rw [MBody.same, e1, e2, e3, e4, e5]
 exact Iff.rfl
theorem aBody_wf (x : MAct) (n : Nat) : (aBody x n).Wf := by
 have h0 : (aBase x).Wf := ⟨rfl, rfl⟩
 rw [aBody]
 split
 ·exact ⟨signR_tag rfl, rfl⟩
 ·exact h0
 ·exact h0
 ·exact ⟨rfl, rfl⟩
 ·exact h0
theorem aBody_few (x : MAct) (n : Nat) (h : x.q.length <= 20) : (aBody x n).qs.length <= 21 := by
 have h0 : (aBase x).qs.length <= 21 := Nat.zero_le _
 rw [aBody]
 split
 ·exact h0
 ·exact h0
 ·show (aQs x n).length <= 21
  rw [aQs_length]; omega
 ·exact h0
 ·exact h0
open Go.RowKit
theorem Fr.front {v W : World} {a : Thing} (xs ys : List Thing) (H : Fr v W (xs ++ a :: ys)) : Fr v W (a :: (xs ++ ys)) := H.perm List.perm_middle
theorem tag_bare (m : MMsg) (A : Option Addr) (c : Nat) (h : m.may) : (tagM (m.at A c)).bare = (tagM m).bare /\ (tagM (m.at A c)).body = (m.at A c).body := by
 rw [tagM, if_pos ((at_may m A c).2 h), tagM, if_pos h]
 exact ⟨rfl, rfl⟩
theorem tagM_wf {m : MMsg} (h : m.Wf) : (tagM m).Wf := by
 rw [tagM]
 split
 ·exact ⟨h.1, h.2.1, numTag_length _ _ _⟩
 ·exact h
theorem said_frame {v W : World} {b mr bt bz ks : Thing} {M T : MMsg} {all : List MMsg} (H : Fr v W [b, mr, bt, bz, qT M, ks, qsT all]) (e : T.body = M.body) : Fr v W [b, ks, mr, qsT (all ++ [T])] := by
 have e3 : M.onQ = T.onQ := by funext g; simp only [MMsg.onQ, e]
 have e2 : qT M = qT T := by
  show (⟨fun W => Prs W M.body.qa M.body.qs, M.onQ⟩ : Thing) = ⟨fun W => Prs W T.body.qa T.body.qs, T.onQ⟩
  rw [e3, e]
 have h1 : Fr v W [qT M, b, mr, bt, bz, ks, qsT all] := Fr.front [b, mr, bt, bz] [ks, qsT all] H
 have h2 : Fr v W [qsT all, qT M, b, mr, bt, bz, ks] := Fr.front [qT M, b, mr, bt, bz, ks] [] h1
 rw [e2] at h2
 have h3 : Fr v W [qsT (all ++ [T]), b, mr, bt, bz, ks] := qs_snoc h2.swap
 have h4 : Fr v W [ks, qsT (all ++ [T]), b, mr, bt, bz] := Fr.front [qsT (all ++ [T]), b, mr, bt, bz] [] h3
 have h5 : Fr v W [b, ks, mr, qsT (all ++ [T]), bt, bz] := h4.third.perm (((List.Perm.swap ..).cons _).cons _)
 exact h5.sub (List.take_sublist 4 [b, ks, mr, qsT (all ++ [T]), bt, bz])
end Go.Proofs.YtllbbcifcbkgeaaGreatDoor.Sh
