/- Laws and walks. -/
import Derived.Test.YtknpcmadghkaaaaGreatDoorLaw
import Derived.Test.YtknpcmadghkaaaaGreatDoorPcw
set_option maxHeartbeats 16000000
set_option maxRecDepth 100000
namespace Go.Proofs.YtknpcmadghkaaaaGreatDoor.Sh
open Go.RowKit
structure MV where
 v : Nat
 num : Nat
 S : List MReq
 P : List (Nat × MReq)
 src : Option Nat
def MV.log (V : MV) : List MReq := V.S ++ V.P.map (·.2)
def rk (r : MReq) : Int × Nat := (r.client, r.time)
structure MStr where
 tak : Nat
 past : MPast
 chg : List (Nat × Nat)
def MStr.last (s : MStr) : Nat := (s.chg.getLast?.map (·.1)).getD 0
structure MLogs where
 strs : List MStr
 vs : List MV
def MLogs.n (M : MLogs) : Nat := M.strs.length
def vix : List MV -> Nat -> Option Nat
 | [], _ => none
 | V :: r, x => if V.v = x then some 0 else (vix r x).map (· + 1)
theorem vix_lt {l : List MV} {x i : Nat} (h : vix l x = some i) : ∃ V, l[i]? = some V /\ V.v = x := by
 induction l generalizing i with
 | nil => cases h
 | cons V r ih =>
  rw [vix] at h
  by_cases e : V.v = x
  ·rw [if_pos e] at h; injection h with h; subst h; exact ⟨V, rfl, e⟩
  ·rw [if_neg e] at h
   obtain ⟨j, hj, rfl⟩ := Option.map_eq_some_iff.1 h
   obtain ⟨U, hU, hv⟩ := ih hj
   exact ⟨U, by simpa using hU, hv⟩
def plcL : List MReq -> Nat -> Int × Nat -> Option Nat
 | [], _, _ => none
 | r :: t, i, k => match plcL t (i + 1) k with | some j => some j | none => if rk r = k then some i else none
theorem plcL_snoc (r : MReq) (k : Int × Nat) : ∀ (l : List MReq) (i : Nat), plcL (l ++ [r]) i k = if rk r = k then some (i + l.length) else plcL l i k
 | [], i => by simp [plcL]
 | x :: t, i => by
  rw [List.cons_append, plcL, plcL_snoc r k t (i + 1), plcL]
  by_cases e : rk r = k
  ·rw [if_pos e, if_pos e]
   simp only [List.length_cons]
   congr 1
   omega
  ·rw [if_neg e, if_neg e]
theorem plcL_some {k : Int × Nat} : ∀ {l : List MReq} {i j : Nat}, plcL l i k = some j -> i <= j /\ ∃ r, l[j - i]? = some r /\ rk r = k
 | x :: t, i, j, h => by
  rw [plcL] at h
  cases ht : plcL t (i + 1) k with
  | some z =>
   rw [ht] at h
   injection h with h
   subst h
   obtain ⟨h1, r, h2, h3⟩ := plcL_some ht
   refine ⟨by omega, r, ?_, h3⟩
   rw [show z - i = (z - (i + 1)) + 1 by omega]
   simpa using h2
  | none =>
   rw [ht] at h
   by_cases e : rk x = k
   ·simp only [if_pos e, Option.some.injEq] at h
    subst h
    exact ⟨Nat.le_refl _, x, by simp, e⟩
   ·simp only [if_neg e] at h; cases h
theorem plcL_none {k : Int × Nat} : ∀ {l : List MReq} {i : Nat}, plcL l i k = none -> ∀ r ∈ l, rk r ≠ k
 | [], _, _ => fun _ h => (by cases h)
 | x :: t, i, h => by
  rw [plcL] at h
  cases ht : plcL t (i + 1) k with
  | some z => rw [ht] at h; cases h
  | none =>
   rw [ht] at h
   by_cases e : rk x = k
   ·simp [e] at h
   ·intro r hr
    rcases List.mem_cons.1 hr with rfl | hr
    ·exact e
    ·exact plcL_none ht r hr
def MV.plc (V : MV) (k : Int × Nat) : Option Value := (plcL (V.P.map (·.2)) V.S.length k).map fun n : Nat => Value.int .i64 (n : Int)
def tot (l : List MV) : Nat := (l.map fun V => V.P.length).sum
structure MV.Ok (l : List MV) (i : Nat) (V : MV) : Prop where
 src : match V.src with | none => V.S = [] | some j => j < i /\ ∃ U, l[j]? = some U /\ U.S.length < V.S.length /\ V.S <+: U.log
 keys : (V.log.map rk).Nodup
 wf : ∀ r ∈ V.log, r.tag.length = 32 /\ PkOk (rk r)
 rise : (V.P.map (·.1)).Pairwise (· < ·)
def MLogs.tk (M : MLogs) (i : Nat) : Nat := (M.strs[i]?.map (·.tak)).getD 0
structure MLogs.Ok (M : MLogs) : Prop where
 n3 : 3 <= M.n
 n11 : M.n <= 11
 uni : (M.vs.map (·.v)).Nodup
 vw : ∀ (i : Nat) (V : MV), M.vs[i]? = some V -> V.Ok M.vs i
 tak : ∀ s ∈ M.strs, s.tak <= 65536
 prm : ∀ V ∈ M.vs, V.num <= M.tk (V.v % M.n) /\ ∀ p ∈ V.P, p.1 <= M.tk (V.v % M.n)
 chg : ∀ s ∈ M.strs, s.chg.length <= s.tak /\ ∀ c ∈ s.chg, c.1 <= s.tak /\ 1 <= c.1 /\ c.2 < 1073741824
structure VA where
 b : Nat
 rn : Value
 rq : Value
 mm : Nat
def ptO (x : Option Nat) : Value := .pointer (x.map fun b => ⟨b, 0, none⟩)
def vwC (a : VA) (sb : Option Nat) (V : MV) : List Value := [.int .u64 (V.num : Int), ptO sb, .int .i64 (V.S.length : Int), a.rn, a.rq, .map (some a.mm)]
structure ViewAt (W : World) (a : VA) (sb : Option Nat) (V : MV) : Prop where
 top : W.heap[a.b]? = some (.cells (vwC a sb V).toArray 133 (0, 0))
 nums : W.ownsRow 0 25 1 a.rn V.P.length (nv .u64 (V.P.map (·.1)))
 reqs : W.ownsRow 0 32 40 a.rq V.P.length (V.P.flatMap fun p => reqC p.2)
 mp : World.mapA W a.mm V.P.length V.plc
def OnV (a : VA) (k : Nat) : Prop := k = a.b \/ k = a.mm \/ a.rn.ownBlock = some k \/ a.rq.ownBlock = some k
def vwT (a : VA) (sb : Option Nat) (V : MV) : Thing := ⟨fun W => ViewAt W a sb V, OnV a⟩
theorem vwT_ok (a : VA) (sb : Option Nat) (V : MV) : (vwT a sb V).Ok := by
 refine ⟨fun W W' (h : ViewAt W a sb V) hk => ⟨(hk _ (.inl rfl)).trans h.top, ownsRow_kept h.nums fun k e => hk k (.inr (.inr (.inl e))), ownsRow_kept h.reqs fun k e => hk k (.inr (.inr (.inr e))), mapA_kept h.mp (hk _ (.inr (.inl rfl)))⟩, fun W (h : ViewAt W a sb V) k hk => ?_⟩
 rcases hk with rfl | rfl | hk | hk
 ·exact (Array.getElem?_eq_some_iff.1 h.top).1
 ·exact mapA_lt h.mp
 ·exact ownsRow_lt h.nums k hk
 ·exact ownsRow_lt h.reqs k hk
theorem ViewAt.apart {W : World} {a : VA} {sb : Option Nat} {V : MV} (h : ViewAt W a sb V) : a.mm ≠ a.b /\ a.rn.ownBlock ≠ some a.b /\ a.rq.ownBlock ≠ some a.b /\ a.rn.ownBlock ≠ some a.mm /\ a.rq.ownBlock ≠ some a.mm /\ ∀ k, a.rn.ownBlock = some k -> a.rq.ownBlock ≠ some k := by
 obtain ⟨es, c, h3⟩ := mapA_block h.mp
 refine ⟨fun x => ?_, fun x => ?_, fun x => ?_, fun x => ?_, fun x => ?_, fun k x y => ?_⟩
 ·have := h.top; rw [<- x, h3] at this; injection this with this; cases this
 ·obtain ⟨C, h4⟩ := ownsRow_block h.nums _ x
  have := h.top; rw [h4] at this; simp at this
 ·obtain ⟨C, h4⟩ := ownsRow_block h.reqs _ x
  have := h.top; rw [h4] at this; simp at this
 ·obtain ⟨C, h4⟩ := ownsRow_block h.nums _ x
  rw [h3] at h4; injection h4 with h4; cases h4
 ·obtain ⟨C, h4⟩ := ownsRow_block h.reqs _ x
  rw [h3] at h4; injection h4 with h4; cases h4
 ·obtain ⟨C, h4⟩ := ownsRow_block h.nums _ x
  obtain ⟨D, h5⟩ := ownsRow_block h.reqs _ y
  rw [h4] at h5; simp at h5
structure SA where
 pb : Nat
 rv : Value
 mb : Option Nat
 cb : Nat
def srC (a : SA) (s : MStr) : List Value := [.int .u64 (s.tak : Int), .pointer (some ⟨a.pb, 0, none⟩), .map (some a.cb), .int .u64 (s.last : Int)]
def cP (L : List (Nat × Nat)) (x : Int) : Option Value := if 0 <= x then (vot L x.toNat).map (fun n : Nat => Value.int .u64 (n : Int)) else none
def chT (b : Nat) (L : List (Nat × Nat)) : Thing := ⟨fun W => World.mapU W b L.length (cP L), fun k => k = b⟩
theorem chT_ok (b : Nat) (L : List (Nat × Nat)) : (chT b L).Ok := ⟨fun _ _ h hk => mapU_kept h (hk b rfl), fun _ h k hk => by cases hk; exact mapU_lt h⟩
structure LA where
 L : Nat
 g : Nat
 cap : Nat
 spare : List Value
 vb : Nat
 sa : List SA
 va : List VA
def vF (va : List VA) (vs : List MV) (x : Int) : Option Value := if 0 <= x then (vix vs x.toNat).bind fun i => va[i]?.map fun a => .pointer (some ⟨a.b, 0, none⟩) else none
theorem vF_nat (va : List VA) (vs : List MV) (x : Nat) : vF va vs (x : Int) = (vix vs x).bind fun i => va[i]?.map fun a => .pointer (some ⟨a.b, 0, none⟩) := by
 rw [vF, if_pos (by omega), Int.toNat_natCast]
def stC (sa : List SA) (ss : List MStr) : List Value := (List.zipWith srC sa ss).flatten
structure HdAt (W : World) (A : LA) (M : MLogs) : Prop where
 top : W.heap[A.L]? = some (.cells #[.slice (some ⟨A.g, 0, none⟩) M.n A.cap, .map (some A.vb)] 91 (0, 0))
 row : W.heap[A.g]? = some (.cells (stC A.sa M.strs ++ A.spare).toArray 96 (0, 0))
 cap : M.n <= A.cap /\ A.cap <= 9223372036854775807
 mp : World.mapU W A.vb M.vs.length (vF A.va M.vs)
def OnH (A : LA) (k : Nat) : Prop := k = A.L \/ k = A.g \/ k = A.vb
def hdT (A : LA) (M : MLogs) : Thing := ⟨fun W => HdAt W A M, OnH A⟩
theorem hdT_ok (A : LA) (M : MLogs) : (hdT A M).Ok := by
 refine ⟨fun W W' (h : HdAt W A M) hk => ⟨(hk _ (.inl rfl)).trans h.top, (hk _ (.inr (.inl rfl))).trans h.row, h.cap, mapU_kept h.mp (hk _ (.inr (.inr rfl)))⟩, fun W (h : HdAt W A M) k hk => ?_⟩
 rcases hk with rfl | rfl | rfl
 ·exact (Array.getElem?_eq_some_iff.1 h.top).1
 ·exact (Array.getElem?_eq_some_iff.1 h.row).1
 ·exact mapU_lt h.mp
theorem HdAt.apart {W : World} {A : LA} {M : MLogs} (h : HdAt W A M) : A.g ≠ A.L /\ A.vb ≠ A.L /\ A.vb ≠ A.g := by
 obtain ⟨es, c, h3⟩ := mapU_block h.mp
 refine ⟨fun x => ?_, fun x => ?_, fun x => ?_⟩
 ·have h1 := h.top; have h2 := h.row; rw [x, h1] at h2; simp at h2
 ·have := h.top; rw [<- x, h3] at this; injection this with this; cases this
 ·have := h.row; rw [<- x, h3] at this; injection this with this; cases this
def pT (sa : List SA) (ss : List MStr) : List Thing := List.zipWith (fun a s => paT a.pb a.rv a.mb s.past) sa ss
def cT (sa : List SA) (ss : List MStr) : List Thing := List.zipWith (fun a s => chT a.cb s.chg) sa ss
def sbO (va : List VA) (V : MV) : Option Nat := V.src.bind fun j => va[j]?.map (·.b)
def vT (va : List VA) (vs : List MV) : List Thing := List.zipWith (fun a V => vwT a (sbO va V) V) va vs
structure LogFr (w W : World) (A : LA) (M : MLogs) (os : List Thing) : Prop where
 fr : Fr w W ([hdT A M] ++ (pT A.sa M.strs ++ (cT A.sa M.strs ++ (vT A.va M.vs ++ os))))
 ls : A.sa.length = M.strs.length
 lv : A.va.length = M.vs.length
 ok : M.Ok
theorem zipWith_set {α β γ : Type} (f : α -> β -> γ) : ∀ (l : List α) (m : List β) (i : Nat) (a : α) (b : β), (List.zipWith f l m).set i (f a b) = List.zipWith f (l.set i a) (m.set i b)
 | [], m, i, a, b => by simp
 | x :: l, [], i, a, b => by cases i <;> simp
 | x :: l, y :: m, 0, a, b => by simp
 | x :: l, y :: m, i + 1, a, b => by simp [zipWith_set f l m i a b]
theorem zipWith_at {α β γ : Type} (f : α -> β -> γ) {l : List α} {m : List β} {i : Nat} {a : α} {b : β} (h1 : l[i]? = some a) (h2 : m[i]? = some b) : (List.zipWith f l m)[i]? = some (f a b) := by
 rw [List.getElem?_zipWith, h1, h2]
section
variable {w W W' : World} {A : LA} {M : MLogs} {os : List Thing}
theorem LogFr.hd (H : LogFr w W A M os) : HdAt W A M := H.fr.hd
theorem LogFr.below (H : LogFr w W A M os) (hb : Below W.heap.size W W') : LogFr w W' A M os := ⟨H.fr.below hb, H.ls, H.lv, H.ok⟩
theorem LogFr.drewN (H : LogFr w W A M os) (k : Nat) : LogFr w (W.drewN k) A M os := H.below (below_drewN bl k)
theorem LogFr.sa_at (H : LogFr w W A M os) {i : Nat} {s : MStr} (h : M.strs[i]? = some s) : ∃ a, A.sa[i]? = some a := ⟨_, List.getElem?_eq_getElem (by rw [H.ls]; exact (List.getElem?_eq_some_iff.1 h).1)⟩
theorem LogFr.va_at (H : LogFr w W A M os) {i : Nat} {V : MV} (h : M.vs[i]? = some V) : ∃ a, A.va[i]? = some a := ⟨_, List.getElem?_eq_getElem (by rw [H.lv]; exact (List.getElem?_eq_some_iff.1 h).1)⟩
theorem LogFr.past (H : LogFr w W A M os) {i : Nat} {a : SA} {s : MStr} (h1 : A.sa[i]? = some a) (h2 : M.strs[i]? = some s) :
  Fr w W (paT a.pb a.rv a.mb s.past :: ([hdT A M] ++ ((pT A.sa M.strs).eraseIdx i ++ (cT A.sa M.strs ++ (vT A.va M.vs ++ os))))) :=
 Fr.focus (zipWith_at _ h1 h2) H.fr
theorem LogFr.chg (H : LogFr w W A M os) {i : Nat} {a : SA} {s : MStr} (h1 : A.sa[i]? = some a) (h2 : M.strs[i]? = some s) :
  Fr w W (chT a.cb s.chg :: ([hdT A M] ++ pT A.sa M.strs ++ ((cT A.sa M.strs).eraseIdx i ++ (vT A.va M.vs ++ os)))) := by
 have h := H.fr
 rw [<- List.append_assoc] at h
 exact Fr.focus (zipWith_at _ h1 h2) h
theorem LogFr.view (H : LogFr w W A M os) {i : Nat} {a : VA} {V : MV} (h1 : A.va[i]? = some a) (h2 : M.vs[i]? = some V) :
  Fr w W (vwT a (sbO A.va V) V :: ([hdT A M] ++ pT A.sa M.strs ++ cT A.sa M.strs ++ ((vT A.va M.vs).eraseIdx i ++ os))) := by
 have h := H.fr
 rw [<- List.append_assoc, <- List.append_assoc] at h
 exact Fr.focus (zipWith_at _ h1 h2) h
end
open Go.RowKit
theorem ret_int {a b : Int} {k : IntKind} (h : a = b) : Ending.returned (Value.int k a) = .returned (.int k b) := by rw [h]
theorem wpList_look1 {P : Program} {ops : Array Oper} {rest : List Oper} {o : Oper} {a : Act} {w : World} {Q : Exit -> Act -> World -> Prop} (hgd : o.guard = none) (m x : Operand) (t : TypeId)
  (ho : o.op = Op.lookup t m x false) (v u r : Value) (hs : a.eval m = v) (hx : a.eval x = u) (hr : (Instr.lookup t v u false).run P w = .ok r w) (h : wpList P ops Q rest (a.put o.dst r) w) : wpList P ops Q (o :: rest) a w :=
 wpList_plain hgd fun K hK => by
  unfold Oper.wp
  simp [execOp, ho, hs, hx, hr, Result.andThen]
  exact hK _ _ h
theorem HdAt.cells {W : World} {A : LA} {M : MLogs} (h : HdAt W A M) : W.cell? ⟨A.L, 0, none⟩ = some (.slice (some ⟨A.g, 0, none⟩) M.n A.cap) /\ W.cell? ⟨A.L, 1, none⟩ = some (.map (some A.vb)) :=
 ⟨block_cell (C := [.slice (some ⟨A.g, 0, none⟩) M.n A.cap, .map (some A.vb)]) h.top 0 _ rfl, block_cell (C := [.slice (some ⟨A.g, 0, none⟩) M.n A.cap, .map (some A.vb)]) h.top 1 _ rfl⟩
theorem stream_any {W : World} {A : LA} {M : MLogs} (h : HdAt W A M) (hn : M.n <= 11) {i : Nat} (hi : i < M.n) {r : Int} (hr : r = (i : Int) + 1) :
  Calls Tryz.prog 39 #[.pointer (some ⟨A.L, 0, none⟩), .int .i64 r] W fun E w' => E = .returned (.pointer (some ⟨A.g, i * 4, none⟩)) /\ W = w' := by
 subst hr
 obtain ⟨c0, _⟩ := h.cells
 clear h
 generalize M.n = n at hn hi c0 ⊢
 have k1 : decide ((i : Int) + 1 < 1) = false := decide_eq_false (by omega)
 have k2 : decide ((n : Int) < (i : Int) + 1) = false := decide_eq_false (by omega)
 have k3 : IntKind.i64.wrap ((i : Int) + 1 - 1) = (i : Int) := by rw [IntKind.wrap_i64]; omega
 go_enter Tryz.func39, Tryz.ntmps39
 go_wp2
 all_goals go_ret
 all_goals exact ⟨rfl, rfl⟩
theorem length_any {W : World} {a : VA} {sb : Option Nat} {V : MV} (h : ViewAt W a sb V) (hl : V.log.length <= 4611686018427387904) : Calls Tryz.prog 78 #[.pointer (some ⟨a.b, 0, none⟩)] W fun E w' => E = .returned (.int .i64 (V.log.length : Int)) /\ ∃ n, w' = W.drewN n := by
 obtain ⟨A, c, e1, _⟩ := row_shape h.reqs
 have c2 := block_cell h.top 2 _ rfl
 have c4 := block_cell h.top 4 _ rfl
 rw [e1] at c4
 clear h
 have e : V.log.length = V.S.length + V.P.length := by simp [MV.log]
 rw [e] at hl ⊢
 generalize V.S.length = s at *
 generalize V.P.length = p at *
 go_enter Tryz.func78, Tryz.ntmps78
 have k1 : IntKind.i64.wrap ((s : Int) + (p : Int)) = (s : Int) + (p : Int) := by rw [IntKind.wrap_i64]; omega
 go_wp2
 go_quiet (fail)
 go_wp2_with fail
 go_ret
 exact ⟨rfl, _, rfl⟩
theorem primary_any {W : World} {A : LA} {M : MLogs} (h : HdAt W A M) (h3 : 3 <= M.n) (hn : M.n <= 11) (v : Nat) (hv : v < 18446744073709551616) :
  Calls Tryz.prog 96 #[.pointer (some ⟨A.L, 0, none⟩), .int .u64 (v : Int)] W fun E w' => E = .returned (.int .i64 ((v % M.n : Nat) + 1 : Int)) /\ W = w' := by
 obtain ⟨c0, _⟩ := h.cells
 clear h
 generalize M.n = n at *
 have k1 : IntKind.u64.wrap (n : Int) = (n : Int) := by rw [IntKind.wrap_u64]; omega
 have k2 : ((n : Int) == 0) = false := by simp; omega
 have k3 : Int.tmod (v : Int) (n : Int) = ((v % n : Nat) : Int) := by rw [Int.tmod_eq_emod_of_nonneg (by omega)]; omega
 have hm : v % n < n := Nat.mod_lt _ (by omega)
 have k4 : IntKind.u64.wrap ((v % n : Nat) : Int) = ((v % n : Nat) : Int) := by rw [IntKind.wrap_u64]; omega
 have k5 : IntKind.i64.wrap ((v % n : Nat) : Int) = ((v % n : Nat) : Int) := by rw [IntKind.wrap_i64]; omega
 have k6 : IntKind.i64.wrap (1 + ((v % n : Nat) : Int)) = 1 + ((v % n : Nat) : Int) := by rw [IntKind.wrap_i64]; omega
 go_enter Tryz.func96, Tryz.ntmps96
 go_wp2
 go_ret
 exact ⟨ret_int (by omega), rfl⟩
theorem look88 {W : World} {A : LA} {M : MLogs} (h : HdAt W A M) {v : Nat} (hv : v < 18446744073709551616) :
  (Instr.lookup 88 (.map (some A.vb)) (.int .u64 (v : Int)) false).run Tryz.prog W = .ok ((vF A.va M.vs (v : Int)).getD (.pointer none)) W :=
 (mapU_lookG Tryz.underlying88 (fun w => by kernel_rfl) h.mp (u64_of (by omega))).2
theorem view_any {W : World} {A : LA} {M : MLogs} (h : HdAt W A M) {v : Nat} (hv : v < 18446744073709551616) :
  Calls Tryz.prog 43 #[.pointer (some ⟨A.L, 0, none⟩), .int .u64 (v : Int)] W fun E w' => E = .returned ((vF A.va M.vs (v : Int)).getD (.pointer none)) /\ W = w' := by
 obtain ⟨_, c1⟩ := h.cells
 have HL := iq (look88 h hv)
 clear h hv
 generalize (vF A.va M.vs (v : Int)).getD (.pointer none) = x at HL ⊢
 go_enter Tryz.func43, Tryz.ntmps43
 go_wp2_with ((with_reducible refine wpList_look1 ?_ (.tmp 10) (.tmp 11) 88 ?_ (.map (some A.vb)) (.int .u64 (v : Int)) _ ?_ ?_ HL.out ?_); rfl; rfl; rfl; rfl)
 go_ret
 exact ⟨rfl, rfl⟩
theorem view_nil (W : World) (v : Int) : Calls Tryz.prog 43 #[.pointer none, .int .u64 v] W fun E w' => E = .returned (.pointer none) /\ W = w' := by
 go_enter Tryz.func43, Tryz.ntmps43
 go_wp2
 go_ret
 exact ⟨rfl, rfl⟩
def strZ : List Value := [.int .u64 0, .pointer none, .map none, .int .u64 0]
theorem stream_nil (W : World) (r : Int) : Calls Tryz.prog 39 #[.pointer none, .int .i64 r] W fun E w' => E = .returned (.pointer (some ⟨W.heap.size, 0, none⟩)) /\ w' = W.alloc (.cells strZ.toArray 96) := by
 go_enter Tryz.func39, Tryz.ntmps39
 go_wp2
 go_ret
 exact ⟨rfl, rfl⟩
theorem stream_none {W : World} {A : LA} {M : MLogs} (h : HdAt W A M) {r : Int} (hr : r < 1 \/ (M.n : Int) < r) :
  Calls Tryz.prog 39 #[.pointer (some ⟨A.L, 0, none⟩), .int .i64 r] W fun E w' => E = .returned (.pointer (some ⟨W.heap.size, 0, none⟩)) /\ w' = W.alloc (.cells strZ.toArray 96) := by
 obtain ⟨c0, _⟩ := h.cells
 clear h
 generalize M.n = n at *
 by_cases h1 : r < 1
 ·have k1 : decide (r < 1) = true := decide_eq_true h1
  clear hr
  go_enter Tryz.func39, Tryz.ntmps39
  go_wp2
  go_ret
  exact ⟨rfl, rfl⟩
 ·have k1 : decide (r < 1) = false := decide_eq_false h1
  have k2 : decide ((n : Int) < r) = true := decide_eq_true (hr.resolve_left h1)
  clear hr
  go_enter Tryz.func39, Tryz.ntmps39
  go_wp2
  go_ret
  exact ⟨rfl, rfl⟩
open Go.RowKit
theorem make131 (W : World) : (Instr.makeMap 131 none).run Tryz.prog W = .ok (.map (some W.heap.size)) (W.alloc (.map #[] 0)) := by kernel_rfl
theorem make88 (W : World) : (Instr.makeMap 88 none).run Tryz.prog W = .ok (.map (some W.heap.size)) (W.alloc (.map #[] 0)) := by kernel_rfl
theorem make94 (W : World) : (Instr.makeMap 94 none).run Tryz.prog W = .ok (.map (some W.heap.size)) (W.alloc (.map #[] 0)) := by kernel_rfl
theorem view_made {v W : World} {os : List Thing} (H : Fr v W os) (num x : Nat) : Fr v ((W.alloc (.map #[] 0)).alloc (.cells (vwC ⟨W.heap.size + 1, .slice none 0 0, .slice none 0 0, W.heap.size⟩ none ⟨x, num, [], [], none⟩).toArray 133)) (vwT ⟨W.heap.size + 1, .slice none 0 0, .slice none 0 0, W.heap.size⟩ none ⟨x, num, [], [], none⟩ :: os) := by
 refine H.add ((bl.alloc (Nat.le_refl _) _).alloc (by simp) _) (o := vwT ⟨W.heap.size + 1, .slice none 0 0, .slice none 0 0, W.heap.size⟩ none ⟨x, num, [], [], none⟩) ⟨?_, World.ownsRow_nil _ _ _ _, World.ownsRow_nil _ _ _ _, ?_⟩ (vwT_ok _ _ _) fun k hk => ?_
 ·exact (heap_alloc_new (W.alloc (.map #[] 0)) _).symm ▸ (by simp)
 ·have h1 := mapA_made W
  have e : MV.plc ⟨x, num, [], [], none⟩ = fun _ => none := by funext k; rfl
  rw [e]
  exact mapA_kept h1 (heap_alloc_old _ _ (by simp))
 ·rcases hk with rfl | rfl | hk | hk
  ·exact Nat.le_succ _
  ·exact Nat.le_refl _
  ·cases hk
  ·cases hk
theorem begin_nil {v W : World} {os : List Thing} (H : Fr v W os) (num x : Nat) :
  Calls Tryz.prog 33 #[.int .u64 (num : Int), .pointer none, .int .i64 0] W fun E w' => ∃ a : VA, E = .returned (.pointer (some ⟨a.b, 0, none⟩)) /\ Fr v w' (vwT a none ⟨x, num, [], [], none⟩ :: os) := by
 have H1 := iq (view_made H num x)
 clear H
 go_enter Tryz.func33, Tryz.ntmps33
 go_wp2
 go_loop [1] (fun v1 => v1 = .pointer none) (fun _ => 0)
 case atStart => rfl
 case round =>
  subst hrel
  have e2 := make131
  go_wp2
  go_ret
  exact ⟨⟨W.heap.size + 1, .slice none 0 0, .slice none 0 0, W.heap.size⟩, rfl, H1.out⟩
open Go.RowKit
theorem fill_mid (p a c : List Value) (vs : List Value) (h : a.length = vs.length) :
  ((Value.agg vs.toArray).cells.zipIdx.foldl (fun cs (x : Value × Nat) => cs.setIfInBounds (p.length + x.2) x.1) (p ++ (a ++ c)).toArray) = (p ++ (vs ++ c)).toArray := by
 have e : (Value.agg vs.toArray).cells = vs.toArray := rfl
 rw [e]
 have e2 : (vs.toArray.zipIdx.foldl (fun cs (x : Value × Nat) => cs.setIfInBounds (p.length + x.2) x.1) (p ++ (a ++ c)).toArray) = ((vs.zipIdx 0).foldl (fun cs (x : Value × Nat) => cs.setIfInBounds (p.length + x.2) x.1) (p ++ (a ++ c)).toArray) := by simp
 rw [e2]
 obtain ⟨_, h2⟩ := Great.foldl_set p.length vs 0 (p ++ (a ++ c)).toArray
 apply Array.ext_getElem?
 intro k
 rw [h2 k]
 simp only [List.getElem?_toArray, List.size_toArray, List.length_append, Nat.add_zero]
 by_cases h3 : p.length <= k
 ·rw [List.getElem?_append_right h3, List.getElem?_append_right h3]
  by_cases h4 : k - p.length < vs.length
  ·rw [if_pos (by omega), List.getElem?_append_left h4]
  ·rw [if_neg (by omega), List.getElem?_append_right (by omega), List.getElem?_append_right (by omega), h]
 ·rw [if_neg (by omega), List.getElem?_append_left (by omega), List.getElem?_append_left (by omega)]
theorem fill_cons (place : Nat -> Option (Nat × Nat)) (cells : Array Value) (i : Nat) (v : Value) (rest : List (Nat × Value)) (off size : Nat) (hp : place i = some (off, size)) (hs : v.cells.size = size) (hle : off + v.cells.size <= cells.size) :
  Instr.fill place cells ((i, v) :: rest) = Instr.fill place (v.cells.zipIdx.foldl (fun cs (x : Value × Nat) => cs.setIfInBounds (off + x.2) x.1) cells) rest := by
 rw [Instr.fill, hp]
 simp only
 rw [if_neg (by simp only [hs]; rw [hs] at hle; simp; omega)]
theorem buildSl {P : Program} {t e : TypeId} {n : Nat} {i0 : TypeInfo} {z : Value} (hu : P.underlying t = some (.slice e)) (hi : P.info? e = some i0) (hz : i0.zero = some z) (hs : i0.size = n) (hn : 0 < n) (hn2 : n <= 1000) (C : List Value) (hC : C.length = n) (w : World) :
  (Instr.buildSlice t 1 #[(0, .agg C.toArray)]).run P w = .ok (.slice (some ⟨w.heap.size, 0, none⟩) 1 1) (w.alloc (.cells C.toArray e)) := by
 refine run_buildSlice w t e 1 _ _ i0 _ hu hi hz (by rw [hs]; omega) (by rw [hs]; omega) ?_
 rw [hs]
 generalize hA : (Array.range (1 * n)).map (fun x => z.cells[x % z.cells.size]!) = A
 have hAs : A.toList.length = n := by rw [<- hA]; simp
 have hAs' : A.size = n := by simpa using hAs
 have m1 := fill_mid [] A.toList [] C (by rw [hAs, hC])
 have e1 : (Value.agg C.toArray).cells.size = n := by show C.toArray.size = n; simpa using hC
 rw [fill_cons _ _ 0 _ _ 0 n (by simp) e1 (by rw [e1]; omega)]
 simp only [List.length_nil, List.nil_append, List.append_nil] at m1
 rw [show A = A.toList.toArray by simp, m1]
 rfl
theorem step_buildSl {P : Program} {ops : Array Oper} {o : Oper} {a : Act} {w : World} {K : Act -> World -> Prop} {Q : Exit -> Act -> World -> Prop} {E : Prop} (hgd : o.guard = none) (t e : TypeId) (x : Operand) (ho : o.op = .buildSlice t 1 #[(0, x)]) (C : List Value) (hx : a.eval x = .agg C.toArray)
  (hrun : (Instr.buildSlice t 1 #[(0, .agg C.toArray)]).run P w = .ok (.slice (some ⟨w.heap.size, 0, none⟩) 1 1) (w.alloc (.cells C.toArray e)))
  (h : K (a.put o.dst (.slice (some ⟨w.heap.size, 0, none⟩) 1 1)) (w.alloc (.cells C.toArray e))) : if Region.wanted o (yielded ops a.tmps) = true then Oper.wp P o a w K Q else E := by
 have hw : Region.wanted o (yielded ops a.tmps) = true := by simp [Region.wanted, hgd]
 rw [if_pos hw]
 unfold Oper.wp execOp
 simp only [ho, List.map_toArray, List.map_cons, List.map_nil, hx, Sem.run_bind, hrun, Result.andThen_ok]
 exact h
theorem run_append_one {P : Program} {t e : TypeId} {n by_ : Nat} {i0 : TypeInfo} {z : Value} (hu : P.underlying t = some (.slice e)) (hi : P.info? e = some i0) (hz : i0.zero = some z) (hs : i0.size = n) (hby : i0.bytes = by_) (hzs : z.cells.size = n) (hn : 0 < n) (hb1 : by_ <= 1000)
  (ty : TypeId) (w : World) (v : Value) (k : Nat) (xs : List Value) (hown : w.ownsRow 0 e n v k xs) (hk : k <= 1000000) (g : Nat) (C : List Value) (hC : C.length = n) (ho : ∀ u ∈ C, u.oneCell' = true) (hg : w.rangeAt g 0 C) :
  ∃ A' c' w', (Builtin.append_ #[t, t] ty #[v, .slice (some ⟨g, 0, none⟩) 1 1]).run P w = .ok (.slice A' (k + 1) c') w' /\ w'.ownsRow 0 e n (.slice A' (k + 1) c') (k + 1) (xs ++ C) /\ w.grownBy w' v.ownBlock /\
   ((Value.slice A' (k + 1) c').ownBlock = v.ownBlock \/ (Value.slice A' (k + 1) c').ownBlock = some w.heap.size) := by
 obtain ⟨v', w', hr, h2, h3, _, h5⟩ := run_append_own_at (P := P) w 0 t ty e i0 z n by_ hu hi hz hs hby hzs hn v k xs hown ⟨g, 0, none⟩ 1 1 C (by rw [hC, Nat.one_mul])
  (fun j u hu => by rw [add_at]; have := hg j u hu; rwa [Nat.zero_add] at this) ho (by unfold maxLen; omega) (Nat.le_trans (Nat.mul_le_mul (show k + 1 <= 1000001 by omega) hb1) (by decide)) (Nat.zero_le _)
 obtain ⟨A', c', rfl, _⟩ := row_shape h2
 exact ⟨A', c', w', hr, h2, h3, h5⟩
theorem step_append_one {P : Program} {ops : Array Oper} {o : Oper} {a : Act} {w : World} {K : Act -> World -> Prop} {Q : Exit -> Act -> World -> Prop} {E : Prop} (hgd : o.guard = none) (s x : Operand) (t : TypeId)
  (ho : o.op = Op.call { callee := Callee.builtin Builtin.append, args := #[s, x], argTypes := #[t, t] }) (v u : Value) (hs : a.eval s = v) (hx : a.eval x = u)
  (v' : Value) (w' : World) (hr : (Builtin.append_ #[t, t] o.type #[v, u]).run P w = .ok v' w') (h : K (a.put o.dst v') w') : if Region.wanted o (yielded ops a.tmps) = true then Oper.wp P o a w K Q else E := by
 have hw : Region.wanted o (yielded ops a.tmps) = true := by simp [Region.wanted, hgd]
 rw [if_pos hw]
 unfold Oper.wp execOp
 simp only [ho, resolve, invoke, builtin, Sem.run_bind, Sem.run_pure, Result.andThen_ok, List.map_toArray, List.map_cons, List.map_nil, hs, hx, hr]
 exact h
theorem held_gen {G : World -> Prop} {V : World} (S : World -> Prop) (h : S V) (k : ∀ W, S W -> G W) : G V := k V h
theorem wpList_ins {P : Program} {ops : Array Oper} {rest : List Oper} {o : Oper} {a : Act} {w : World} {Q : Exit -> Act -> World -> Prop} (hgd : o.guard = none) (m x y : Operand) (t : TypeId)
  (ho : o.op = Op.insert t m x y) (v u z : Value) (hs : a.eval m = v) (hx : a.eval x = u) (hy : a.eval y = z) (w' : World) (hr : (Instr.mapUpdate t v u z).run P w = .ok () w') (h : wpList P ops Q rest (a.put o.dst undef) w') : wpList P ops Q (o :: rest) a w :=
 wpList_plain hgd fun K hK => by
  unfold Oper.wp
  simp [execOp, ho, hs, hx, hy, hr, Result.andThen]
  exact hK _ _ h
def rwT (e : TypeId) (s : Nat) (rv : Value) (n : Nat) (xs : List Value) : Thing := ⟨fun W => W.ownsRow 0 e s rv n xs, fun j => rv.ownBlock = some j⟩
theorem rwT_ok (e : TypeId) (s : Nat) (rv : Value) (n : Nat) (xs : List Value) : (rwT e s rv n xs).Ok := ⟨fun _ _ h hk => ownsRow_kept h hk, fun _ h k hk => ownsRow_lt h k hk⟩
theorem rw_nil {v W : World} {os : List Thing} (H : Fr v W os) (e : TypeId) (s : Nat) : Fr v W (rwT e s (.slice none 0 0) 0 [] :: os) :=
 H.add bl (World.ownsRow_nil _ _ _ _) (rwT_ok _ _ _ _ _) fun j hj => (by cases hj)
theorem rw_append {P : Program} {t e : TypeId} {n by_ : Nat} {z : Value} (hP : P = Tryz.prog) (hu : P.underlying t = some (.slice e)) (hi : (P.info? e).map (fun i => (i.zero, i.size, i.bytes)) = some (some z, n, by_)) (hzs : z.cells.size = n) (hn : 0 < n) (hb1 : by_ <= 1000)
  {v W : World} {os : List Thing} {rv : Value} {k : Nat} {xs : List Value} (H : Fr v W (rwT e n rv k xs :: os)) (hk : k <= 1000000) (ty : TypeId) (g : Nat) (C : List Value) (hC : C.length = n) (ho : ∀ u ∈ C, u.oneCell' = true) (hg : W.rangeAt g 0 C) :
  ∃ A' c' W', (Builtin.append_ #[t, t] ty #[rv, .slice (some ⟨g, 0, none⟩) 1 1]).run P W = .ok (.slice A' (k + 1) c') W' /\ Fr v W' (rwT e n (.slice A' (k + 1) c') (k + 1) (xs ++ C) :: os) /\ W.grownBy W' rv.ownBlock := by
 subst hP
 obtain ⟨i0, h1, h2, h3, h4⟩ := info_parts hi
 obtain ⟨A', c', W', hr, hrow, hgr, hat⟩ := run_append_one hu h1 h2 h3 h4 hzs hn hb1 ty W rv k xs H.hd hk g C hC ho hg
 refine ⟨A', c', W', hr, H.turn (o' := rwT e n (.slice A' (k + 1) c') (k + 1) (xs ++ C)) ⟨(Turns.refl _ W).grown hgr fun j e => .inl e, fun j hj => ?_⟩ hrow (rwT_ok _ _ _ _ _), hgr⟩
 have hj' : (Value.slice A' (k + 1) c').ownBlock = some j := hj
 rcases hat with e | e
 ·exact .inl (e.symm.trans hj')
 ·rw [e] at hj'; injection hj' with hj'; exact .inr (Nat.le_of_eq hj')
def mpT (b n : Nat) (f : Int -> Option Value) : Thing := ⟨fun W => World.mapU W b n f, fun k => k = b⟩
theorem mpT_ok (b n : Nat) (f : Int -> Option Value) : (mpT b n f).Ok := ⟨fun _ _ h hk => mapU_kept h (hk b rfl), fun _ h k hk => by cases hk; exact mapU_lt h⟩
theorem mp_made {v W : World} {os : List Thing} (H : Fr v W os) : Fr v (W.alloc (.map #[] 0)) (mpT W.heap.size 0 (fun _ => none) :: os) :=
 H.add (bl.alloc (Nat.le_refl _) _) (mapU_made W) (mpT_ok _ _ _) fun _ hk => Nat.le_of_eq hk.symm
theorem mp_put {t e : TypeId} (hu : Tryz.prog.underlying t = some (.map 25 e)) {v W : World} {os : List Thing} {b n : Nat} {f : Int -> Option Value} (H : Fr v W (mpT b n f :: os)) (hn : n <= 2000000000) {k : Int} (hk : U64 k) (val : Value) :
  ∃ W', (Instr.mapUpdate t (.map (some b)) (.int .u64 k) val).run Tryz.prog W = .ok () W' /\ Fr v W' (mpT b (if (f k).isSome then n else n + 1) (upd f k (some val)) :: os) := by
 obtain ⟨W', r1, r2, r3⟩ := mapU_updateG hu H.hd hn hk val
 exact ⟨W', r1, H.turn (o' := mpT b (if (f k).isSome then n else n + 1) (upd f k (some val))) (Own.same ((Turns.refl _ W).grown r3 fun j e => by cases e; exact .inl rfl)) r2 (mpT_ok _ _ _)⟩
theorem ch_made {v W : World} {os : List Thing} (H : Fr v W os) : Fr v (W.alloc (.map #[] 0)) (chT W.heap.size [] :: os) := by
 refine H.add (bl.alloc (Nat.le_refl _) _) (o := chT W.heap.size []) ?_ (chT_ok _ _) fun _ hk => Nat.le_of_eq hk.symm
 have e : cP [] = fun _ => none := by funext x; simp [cP, vot]
 show World.mapU _ _ 0 (cP [])
 rw [e]
 exact mapU_made W
def MStr.new : MStr := ⟨0, .new, []⟩
theorem Tryz.inf96 : (Tryz.prog.info? 96).map (fun i => (i.zero, i.size, i.bytes)) = some (some (.agg strZ.toArray), 4, 32) := by kernel_rfl
theorem buildSl96 (C : List Value) (h : C.length = 4) (w : World) : (Instr.buildSlice 89 1 #[(0, .agg C.toArray)]).run Tryz.prog w = .ok (.slice (some ⟨w.heap.size, 0, none⟩) 1 1) (w.alloc (.cells C.toArray 96)) := by
 obtain ⟨i0, hi, hz0, hz1, _⟩ := info_parts Tryz.inf96
 exact buildSl Tryz.underlying89 hi hz0 hz1 (by decide) (by decide) _ h w
theorem build96 (p : Option Addr) (c : Option Nat) (w : World) : (Instr.build 96 #[(1, .pointer p), (2, .map c)]).run Tryz.prog w = .ok (.agg #[.int .u64 0, .pointer p, .map c, .int .u64 0]) w := by kernel_rfl
theorem stC_snoc (a : SA) (s : MStr) : ∀ (sa : List SA) (ss : List MStr), sa.length = ss.length -> stC (sa ++ [a]) (ss ++ [s]) = stC sa ss ++ srC a s := fun sa ss h => by
 unfold stC
 rw [List.zipWith_append h]
 simp
theorem pT_snoc (a : SA) (s : MStr) (sa : List SA) (ss : List MStr) (h : sa.length = ss.length) : pT (sa ++ [a]) (ss ++ [s]) = pT sa ss ++ [paT a.pb a.rv a.mb s.past] := by
 unfold pT
 rw [List.zipWith_append h]
 rfl
theorem cT_snoc (a : SA) (s : MStr) (sa : List SA) (ss : List MStr) (h : sa.length = ss.length) : cT (sa ++ [a]) (ss ++ [s]) = cT sa ss ++ [chT a.cb s.chg] := by
 unfold cT
 rw [List.zipWith_append h]
 rfl
open Go.RowKit
theorem Fr.join3 {w W : World} {a b c d : Thing} {os : List Thing} (H : Fr w W (a :: b :: c :: os)) (hp : d.P W) (ok : d.Ok) (hf : ∀ k, d.F k -> a.F k \/ b.F k \/ c.F k) : Fr w W (d :: os) := by
 obtain ⟨h1, h2⟩ := List.pairwise_cons.1 H.apart
 obtain ⟨h3, h4⟩ := List.pairwise_cons.1 h2
 obtain ⟨h5, h6⟩ := List.pairwise_cons.1 h4
 refine ⟨H.bel, H.ks, H.pos, fun x hx => ?_, List.Pairwise.cons (fun y hy k hk => ?_) h6⟩
 ·rcases List.mem_cons.1 hx with rfl | hx
  ·exact ⟨hp, ok, fun k hk => (hf k hk).elim (H.ge k) fun h => h.elim (H.pop.ge k) (H.pop.pop.ge k)⟩
  ·exact H.all x (List.mem_cons_of_mem _ (List.mem_cons_of_mem _ (List.mem_cons_of_mem _ hx)))
 ·exact (hf k hk).elim (h1 y (List.mem_cons_of_mem _ (List.mem_cons_of_mem _ hy)) k) fun h => h.elim (h3 y (List.mem_cons_of_mem _ hy) k) (h5 y hy k)
def MV.zero : MV := ⟨0, 0, [], [], none⟩
def MLogs.new (n : Nat) : MLogs := ⟨List.replicate n .new, [.zero]⟩
theorem new_ok {n : Nat} (h3 : 3 <= n) (h11 : n <= 11) : (MLogs.new n).Ok := by
 refine ⟨by simp [MLogs.n, MLogs.new, h3], by simp [MLogs.n, MLogs.new, h11], by simp [MLogs.new], fun i V h => ?_, fun s h => ?_, fun V h => ?_, fun s h => ?_⟩
 ·match i, h with
  | 0, h => 
   simp [MLogs.new] at h
   subst h
   exact ⟨rfl, List.nodup_nil, fun r h => (by cases h), List.Pairwise.nil⟩
 ·rw [(List.mem_replicate.1 h).2]; decide
 ·rw [List.mem_singleton.1 h]; exact ⟨Nat.zero_le _, fun p h => (by cases h)⟩
 ·rw [(List.mem_replicate.1 h).2]; exact ⟨Nat.le_refl _, fun c h => (by cases h)⟩
theorem hd_of {v W : World} {os : List Thing} {L vb : Nat} {rv : Value} {sa : List SA} {va : List VA} {M : MLogs} (h0 : 0 < M.n)
  (H : Fr v W (blkT L [rv, .map (some vb)].toArray 91 :: rwT 96 4 rv M.n (stC sa M.strs) :: mpT vb M.vs.length (vF va M.vs) :: os)) :
  ∃ A : LA, A.L = L /\ A.sa = sa /\ A.va = va /\ Fr v W (hdT A M :: os) := by
 have hr := H.hd2
 rcases hr.2 with ⟨_, e0⟩ | ⟨g, cap, cur, rfl, _, hg, h3, h4, h5, h6⟩
 ·omega
 ·refine ⟨⟨L, g, cap, cur.toList.drop (M.n * 4), vb, sa, va⟩, rfl, rfl, rfl, ?_⟩
  have hp : HdAt W ⟨L, g, cap, cur.toList.drop (M.n * 4), vb, sa, va⟩ M := ⟨H.hd, by
   show W.heap[g]? = some (.cells (stC sa M.strs ++ cur.toList.drop (M.n * 4)).toArray 96 (0, 0))
   rw [<- h6, List.take_append_drop]
   simpa using hg, ⟨h3, h4⟩, H.hd3⟩
  exact Fr.join3 H hp (hdT_ok _ _) fun k hk => hk.elim .inl fun h => h.elim (fun e => .inr (.inl (by show (some g) = some k; rw [show k = g from e]))) fun h => .inr (.inr h)
theorem perm_new {α : Type} (p c a b m : α) (X Y R : List α) : (p :: c :: a :: b :: m :: (X ++ (Y ++ R))).Perm (a :: b :: m :: ((X ++ [p]) ++ ((Y ++ [c]) ++ R))) := by
 refine (List.perm_append_comm (l₁ := [p, c]) (l₂ := [a, b, m])).append_right (X ++ (Y ++ R)) |>.trans ?_
 show (a :: b :: m :: p :: c :: (X ++ (Y ++ R))).Perm _
 refine ((List.Perm.trans ?_ (List.perm_middle (l₁ := X) (a := p) (l₂ := Y ++ c :: R)).symm |>.trans (List.Perm.of_eq (by simp))).cons m |>.cons b |>.cons a)
 refine List.Perm.cons p ?_
 rw [<- List.append_assoc, <- List.append_assoc]
 exact List.perm_middle.symm
end Go.Proofs.YtknpcmadghkaaaaGreatDoor.Sh
