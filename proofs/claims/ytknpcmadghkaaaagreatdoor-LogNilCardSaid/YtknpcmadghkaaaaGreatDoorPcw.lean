/- Laws and walks. -/
import Derived.Test.YtknpcmadghkaaaaGreatDoorPbw
set_option maxHeartbeats 16000000
set_option maxRecDepth 100000
namespace Go.Proofs.YtknpcmadghkaaaaGreatDoor.Sh
open Go.RowKit
structure MPast where
 L : List (Nat × Nat)
 great : Nat
def vot : List (Nat × Nat) -> Nat -> Option Nat
 | [], _ => none
 | q :: r, x => if q.1 = x then some q.2 else vot r x
def vP (L : List (Nat × Nat)) (x : Int) : Option Value := if 0 <= x then (vot L x.toNat).map (fun n : Nat => Value.int .i64 (n : Int)) else none
theorem vP_nat (L : List (Nat × Nat)) (x : Nat) : vP L (x : Int) = (vot L x).map (fun n : Nat => Value.int .i64 (n : Int)) := by
 rw [vP, if_pos (by omega), Int.toNat_natCast]
theorem vot_snoc (x y n : Nat) : ∀ L : List (Nat × Nat), vot L y = none \/ x ≠ y -> vot (L ++ [(x, n)]) y = if x = y then some n else vot L y
 | [], _ => by by_cases h : x = y <;> simp [vot, h]
 | q :: r, h => by
  rw [List.cons_append, vot, vot]
  by_cases e : q.1 = y
  ·rw [if_pos e, if_pos e]
   rcases h with h | h
   ·rw [vot, if_pos e] at h; cases h
   ·rw [if_neg h]
  ·rw [if_neg e, if_neg e]
   exact vot_snoc x y n r (h.imp (fun h => by rwa [vot, if_neg e] at h) id)
def bump (L : List (Nat × Nat)) (x : Nat) : List (Nat × Nat) := L.map fun q => if q.1 = x then (q.1, q.2 + 1) else q
theorem bump_length (L : List (Nat × Nat)) (x : Nat) : (bump L x).length = L.length := by simp [bump]
theorem bump_fst (L : List (Nat × Nat)) (x : Nat) : (bump L x).map (·.1) = L.map (·.1) := by
 rw [bump, List.map_map]
 refine List.map_congr_left fun q _ => ?_
 show (if q.1 = x then (q.1, q.2 + 1) else q).1 = q.1
 split <;> rfl
theorem vot_bump (x y : Nat) : ∀ L : List (Nat × Nat), vot (bump L x) y = if y = x then (vot L y).map (· + 1) else vot L y
 | [] => by simp [bump, vot]
 | q :: r => by
  have ih := vot_bump x y r
  rw [bump] at ih ⊢
  rw [List.map_cons, vot, vot, ih]
  by_cases e : q.1 = x
  ·rw [if_pos e]
   by_cases h : q.1 = y
   ·have : y = x := by omega
    simp [h, this]
   ·simp [h]
  ·rw [if_neg e]
   by_cases h : q.1 = y
   ·have : ¬ y = x := by omega
    simp [h, this]
   ·simp [h]
theorem vot_mem {L : List (Nat × Nat)} {x n : Nat} (h : vot L x = some n) : (x, n) ∈ L := by
 induction L with
 | nil => cases h
 | cons q r ih =>
  rw [vot] at h
  by_cases e : q.1 = x
  ·rw [if_pos e] at h; injection h with h; subst h; subst e; exact List.mem_cons_self ..
  ·rw [if_neg e] at h; exact List.mem_cons_of_mem _ (ih h)
theorem vot_none {L : List (Nat × Nat)} {x : Nat} : vot L x = none ↔ ∀ q ∈ L, q.1 ≠ x := by
 induction L with
 | nil => simp [vot]
 | cons q r ih =>
  rw [vot]
  by_cases e : q.1 = x
  ·rw [if_pos e]
   exact ⟨fun h => (by cases h), fun h => absurd e (h q (List.mem_cons_self ..))⟩
  ·rw [if_neg e, ih]
   exact ⟨fun h a ha => (List.mem_cons.1 ha).elim (fun x => x ▸ e) (h a), fun h a ha => h a (List.mem_cons_of_mem _ ha)⟩
structure MPast.Ok (p : MPast) : Prop where
 rise : (p.L.map (·.1)).Pairwise (· < ·)
 le : ∀ q ∈ p.L, q.1 <= p.great /\ q.2 <= 9223372036854775807
 top : p.great < 1073741824
theorem rise_len : ∀ (l : List Nat) (a N : Nat), l.Pairwise (· < ·) -> (∀ x ∈ l, a <= x /\ x < N) -> l.length <= N - a
 | [], _, _, _, _ => Nat.zero_le _
 | x :: r, a, N, h, hb => by
  obtain ⟨h1, h2⟩ := List.pairwise_cons.1 h
  have := rise_len r (x + 1) N h2 fun y hy => ⟨h1 y hy, (hb y (List.mem_cons_of_mem _ hy)).2⟩
  have hx := hb x (List.mem_cons_self ..)
  rw [List.length_cons]
  omega
theorem MPast.Ok.len {p : MPast} (h : p.Ok) : p.L.length <= 1073741824 := by
 have := rise_len (p.L.map (·.1)) 0 1073741824 h.rise fun x hx => by
  obtain ⟨q, hq, rfl⟩ := List.mem_map.1 hx
  have := (h.le q hq).1
  have := h.top
  omega
 simpa using this
def MPast.add (p : MPast) (v n : Nat) : MPast := ⟨p.L ++ [(v, n)], v⟩
theorem MPast.Ok.add {p : MPast} (h : p.Ok) {v n : Nat} (hv : v < 1073741824) (hg : p.great <= v) (hn : n <= 9223372036854775807) (hx : vot p.L v = none) : (p.add v n).Ok := by
 refine ⟨?_, fun q hq => ?_, hv⟩
 ·show ((p.L ++ [(v, n)]).map (·.1)).Pairwise (· < ·)
  rw [List.map_append]
  refine List.pairwise_append.2 ⟨h.rise, List.pairwise_singleton .., fun a ha b hb => ?_⟩
  obtain ⟨q, hq, rfl⟩ := List.mem_map.1 ha
  have e : b = v := by simpa using hb
  subst e
  have h1 := (h.le q hq).1
  have h2 := vot_none.1 hx q hq
  omega
 ·rcases List.mem_append.1 hq with hq | hq
  ·have := h.le q hq; exact ⟨Nat.le_trans this.1 hg, this.2⟩
  ·rw [List.mem_singleton.1 hq]; exact ⟨Nat.le_refl _, hn⟩
def MPast.bump (p : MPast) : MPast := ⟨Proofs.YtknpcmadghkaaaaGreatDoor.Sh.bump p.L p.great, p.great⟩
theorem MPast.Ok.bump {p : MPast} (h : p.Ok) {n : Nat} (hn : vot p.L p.great = some n) (hb : n < 9223372036854775807) : p.bump.Ok := by
 refine ⟨?_, fun q hq => ?_, h.top⟩
 ·show ((Proofs.YtknpcmadghkaaaaGreatDoor.Sh.bump p.L p.great).map (·.1)).Pairwise (· < ·)
  rw [bump_fst]
  exact h.rise
 ·obtain ⟨a, ha, rfl⟩ := List.mem_map.1 hq
  by_cases e : a.1 = p.great
  ·rw [if_pos e]
   refine ⟨(h.le a ha).1, ?_⟩
   have : vot p.L a.1 = some a.2 := by
    have hr := h.rise
    clear hq h hn hb e
    generalize p.L = L at ha hr
    induction L with
    | nil => cases ha
    | cons q r ih =>
     rw [vot]
     rw [List.map_cons] at hr
     obtain ⟨r1, r2⟩ := List.pairwise_cons.1 hr
     rcases List.mem_cons.1 ha with rfl | ha
     ·rw [if_pos rfl]
     ·have := r1 a.1 (List.mem_map.2 ⟨a, ha, rfl⟩)
      rw [if_neg (by omega)]
      exact ih ha r2
   rw [e, hn] at this
   injection this with this
   show a.2 + 1 <= _
   omega
  ·rw [if_neg e]
   exact h.le a ha
def paC (rv : Value) (mb : Option Nat) (g : Nat) : List Value := [rv, .map mb, .int .u64 (g : Int)]
structure PastAt (W : World) (b : Nat) (rv : Value) (mb : Option Nat) (p : MPast) : Prop where
 top : W.heap[b]? = some (.cells (paC rv mb p.great).toArray 136 (0, 0))
 row : W.ownsRow 0 25 1 rv p.L.length (nv .u64 (p.L.map (·.1)))
 mp : (mb = none /\ p.L = []) \/ ∃ k, mb = some k /\ World.mapU W k p.L.length (vP p.L)
 ok : p.Ok
def OnP (b : Nat) (rv : Value) (mb : Option Nat) (k : Nat) : Prop := k = b \/ mb = some k \/ rv.ownBlock = some k
def paT (b : Nat) (rv : Value) (mb : Option Nat) (p : MPast) : Thing := ⟨fun W => PastAt W b rv mb p, OnP b rv mb⟩
theorem paT_ok (b : Nat) (rv : Value) (mb : Option Nat) (p : MPast) : (paT b rv mb p).Ok := by
 refine ⟨fun W W' (h : PastAt W b rv mb p) hk => ⟨(hk b (.inl rfl)).trans h.top, ownsRow_kept h.row fun k e => hk k (.inr (.inr e)), ?_, h.ok⟩, fun W (h : PastAt W b rv mb p) k hk => ?_⟩
 ·rcases h.mp with h1 | ⟨k, h1, h2⟩
  ·exact .inl h1
  ·exact .inr ⟨k, h1, mapU_kept h2 (hk k (.inr (.inl h1)))⟩
 ·rcases hk with rfl | hk | hk
  ·exact (Array.getElem?_eq_some_iff.1 h.top).1
  ·rcases h.mp with ⟨h1, _⟩ | ⟨k', h1, h2⟩
   ·rw [h1] at hk; cases hk
   ·rw [h1] at hk; injection hk with hk; rw [<- hk]; exact mapU_lt h2
  ·exact ownsRow_lt h.row k hk
theorem PastAt.apart {W : World} {b : Nat} {rv : Value} {mb : Option Nat} {p : MPast} (h : PastAt W b rv mb p) : (∀ k, mb = some k -> k ≠ b /\ rv.ownBlock ≠ some k) /\ ∀ k, rv.ownBlock = some k -> k ≠ b := by
 refine ⟨fun k e => ?_, fun k e x => ?_⟩
 ·rcases h.mp with ⟨h1, _⟩ | ⟨k', h1, h2⟩
  ·rw [h1] at e; cases e
  ·rw [h1] at e
   injection e with e
   subst e
   obtain ⟨es, c, h3⟩ := mapU_block h2
   refine ⟨fun x => ?_, fun x => ?_⟩
   ·have := h.top; rw [<- x, h3] at this; injection this with this; cases this
   ·obtain ⟨C, h4⟩ := ownsRow_block h.row k' x
    rw [h3] at h4; injection h4 with h4; cases h4
 ·obtain ⟨C, h4⟩ := ownsRow_block h.row k e
  have := h.top
  rw [<- x, h4] at this
  simp at this
theorem PastAt.cells {W : World} {b : Nat} {rv : Value} {mb : Option Nat} {p : MPast} (h : PastAt W b rv mb p) : W.cell? ⟨b, 0, none⟩ = some rv /\ W.cell? ⟨b, 1, none⟩ = some (.map mb) /\ W.cell? ⟨b, 2, none⟩ = some (.int .u64 (p.great : Int)) :=
 ⟨block_cell h.top 0 _ rfl, block_cell h.top 1 _ rfl, block_cell h.top 2 _ rfl⟩
theorem PastAt.free {W : World} {b : Nat} {rv : Value} {mb : Option Nat} {p : MPast} (h : PastAt W b rv mb p) (i : Nat) : W.frozen? ⟨b, i, none⟩ = false := free_block h.top i
open Go.RowKit
theorem PastAt.look {W : World} {b : Nat} {rv : Value} {mb : Option Nat} {p : MPast} (h : PastAt W b rv mb p) {v : Nat} (hv : v < 18446744073709551616) :
  (Instr.lookup 134 (.map mb) (.int .u64 (v : Int)) true).run Tryz.prog W = .ok (.tuple #[.int .i64 (((vot p.L v).getD 0 : Nat) : Int), .bool (vot p.L v).isSome]) W := by
 rcases h.mp with ⟨rfl, h1⟩ | ⟨k, rfl, h2⟩
 ·rw [mapN_look W (u64_of (by omega)), h1]; rfl
 ·rw [mapU_look h2 (u64_of (by omega)), vP_nat]
  cases vot p.L v <;> rfl
theorem great_nil (W : World) : Calls Tryz.prog 53 #[.pointer none] W fun E w' => E = .returned (.int .u64 0) /\ W = w' := by
 go_enter Tryz.func53, Tryz.ntmps53
 go_wp2
 go_ret
 exact ⟨rfl, rfl⟩
theorem voted_any {W : World} {b : Nat} {rv : Value} {mb : Option Nat} {p : MPast} (h : PastAt W b rv mb p) {v : Nat} (hv : v < 18446744073709551616) :
  Calls Tryz.prog 52 #[.pointer (some ⟨b, 0, none⟩), .int .u64 (v : Int)] W fun E w' => E = .returned (.tuple #[.int .i64 (((vot p.L v).getD 0 : Nat) : Int), .bool (vot p.L v).isSome]) /\ W = w' := by
 obtain ⟨_, c1, _⟩ := h.cells
 have HL := iq (h.look hv)
 clear h hv
 generalize (((vot p.L v).getD 0 : Nat) : Int) = n at HL ⊢
 generalize (vot p.L v).isSome = s at HL ⊢
 go_enter Tryz.func52, Tryz.ntmps52
 go_wp2_with ((with_reducible refine wpList_look2 ?_ (.tmp 14) (.tmp 15) 134 ?_ (.map mb) (.int .u64 (v : Int)) _ ?_ ?_ HL.out ?_); rfl; rfl; rfl; rfl)
 exact bodyPost_ret (results_tmp2 rfl _ _ _) rfl ⟨rfl, rfl⟩
theorem voted_nil (W : World) (v : Int) : Calls Tryz.prog 52 #[.pointer none, .int .u64 v] W fun E w' => E = .returned (.tuple #[.int .i64 0, .bool false]) /\ W = w' := by
 go_enter Tryz.func52, Tryz.ntmps52
 go_wp2
 exact bodyPost_ret (results_tmp2 rfl _ _ _) rfl ⟨rfl, rfl⟩
def opn (p : MPast) (v : Nat) : Bool := (vot p.L v).isSome && decide (v = p.great)
theorem open_any {W : World} {b : Nat} {rv : Value} {mb : Option Nat} {p : MPast} (h : PastAt W b rv mb p) {v : Nat} (hv : v < 18446744073709551616) :
  Calls Tryz.prog 127 #[.pointer (some ⟨b, 0, none⟩), .int .u64 (v : Int)] W fun E w' => E = .returned (.tuple #[.int .i64 (((vot p.L v).getD 0 : Nat) : Int), .bool (opn p v)]) /\ ∃ n, w' = W.drewN n := by
 obtain ⟨_, _, c2⟩ := h.cells
 have HV := iq (voted_any h hv)
 clear h hv
 unfold opn
 generalize (((vot p.L v).getD 0 : Nat) : Int) = n at HV ⊢
 generalize (vot p.L v).isSome = s at HV ⊢
 generalize p.great = G at c2 ⊢
 cases s
 ·go_enter Tryz.func127, Tryz.ntmps127
  go_wp2_with (go_at_call 52; refine HV.out.mono ?_; rintro E w1 ⟨rfl, rfl⟩)
  go_quiet (fail)
  go_wp2_with fail
  exact bodyPost_ret (results_tmp2 rfl _ _ _) rfl ⟨rfl, _, rfl⟩
 ·by_cases e : v = G
  ·have e1 : decide (v = G) = true := decide_eq_true e
   have e2 : ((v : Int) == (G : Int)) = true := by simp; omega
   clear e
   rw [e1]
   go_enter Tryz.func127, Tryz.ntmps127
   go_wp2_with (go_at_call 52; refine HV.out.mono ?_; rintro E w1 ⟨rfl, rfl⟩)
   go_quiet (fail)
   go_wp2_with fail
   exact bodyPost_ret (results_tmp2 rfl _ _ _) rfl ⟨rfl, _, rfl⟩
  ·have e1 : decide (v = G) = false := decide_eq_false e
   have e2 : ((v : Int) == (G : Int)) = false := by simp; omega
   clear e
   rw [e1]
   go_enter Tryz.func127, Tryz.ntmps127
   go_wp2_with (go_at_call 52; refine HV.out.mono ?_; rintro E w1 ⟨rfl, rfl⟩)
   go_quiet (fail)
   go_wp2_with fail
   exact bodyPost_ret (results_tmp2 rfl _ _ _) rfl ⟨rfl, _, rfl⟩
open Go.RowKit
def chg (p : MPast) (v : Nat) : Bool × MPast := if p.great < v /\ v < 1073741824 then (true, ⟨p.L, v⟩) else (false, p)
theorem MPast.Ok.chg {p : MPast} (h : p.Ok) {v : Nat} (h1 : p.great < v) (h2 : v < 1073741824) : (⟨p.L, v⟩ : MPast).Ok :=
 ⟨h.rise, fun q hq => ⟨Nat.le_trans (h.le q hq).1 (Nat.le_of_lt h1), (h.le q hq).2⟩, h2⟩
theorem pa_made {v W : World} {os : List Thing} {b : Nat} {rv : Value} {p : MPast} (H : Fr v W (paT b rv none p :: os)) : Fr v ((W.alloc (.map #[] 0)).setCell ⟨b, 1, none⟩ (.map (some W.heap.size))) (paT b rv (some W.heap.size) p :: os) := by
 have h : PastAt W b rv none p := H.hd
 obtain ⟨a1, a2⟩ := h.apart
 have hb : b < W.heap.size := (Array.getElem?_eq_some_iff.1 h.top).1
 have hk : ∀ k, k < W.heap.size -> k ≠ b -> ((W.alloc (.map #[] 0)).setCell ⟨b, 1, none⟩ (.map (some W.heap.size))).heap[k]? = W.heap[k]? := fun k hk hn =>
  (Below.heap_setCell (W.alloc (.map #[] 0)) ⟨b, 1, none⟩ (.map (some W.heap.size)) k hn).trans (heap_alloc_old W _ hk)
 have e0 : p.L = [] := by
  rcases h.mp with ⟨_, e⟩ | ⟨k, e, _⟩
  ·exact e
  ·cases e
 refine H.turn (o' := paT b rv (some W.heap.size) p) ⟨((Turns.refl _ W).alloc _).setCell (.inl (.inl rfl)) 1 _, fun k hk => ?_⟩ ⟨?_, ownsRow_kept h.row fun k e => hk k (ownsRow_lt h.row k e) (a2 k e), .inr ⟨_, rfl, ?_⟩, h.ok⟩ (paT_ok _ _ _ _)
 ·rcases hk with rfl | hk | hk
  ·exact .inl (.inl rfl)
  ·injection hk with hk; exact .inr (by omega)
  ·exact .inl (.inr (.inr hk))
 ·exact heap_set (C := paC rv none p.great) ((heap_alloc_old W _ hb).trans h.top) _
 ·have := mapU_made W
  rw [e0, show vP [] = fun _ => none by funext x; simp [vP, vot]]
  exact mapU_kept (w := W.alloc (.map #[] 0)) this (Below.heap_setCell (W.alloc (.map #[] 0)) ⟨b, 1, none⟩ _ _ (by show ¬ W.heap.size = b; omega))
structure MidAt (W : World) (b : Nat) (rv : Value) (k : Nat) (g : Nat) (l : List Nat) (n : Nat) (f : Int -> Option Value) : Prop where
 top : W.heap[b]? = some (.cells (paC rv (some k) g).toArray 136 (0, 0))
 row : W.ownsRow 0 25 1 rv l.length (nv .u64 l)
 mp : World.mapU W k n f
def mdT (b : Nat) (rv : Value) (k : Nat) (g : Nat) (l : List Nat) (n : Nat) (f : Int -> Option Value) : Thing := ⟨fun W => MidAt W b rv k g l n f, OnP b rv (some k)⟩
theorem mdT_ok (b : Nat) (rv : Value) (k : Nat) (g : Nat) (l : List Nat) (n : Nat) (f : Int -> Option Value) : (mdT b rv k g l n f).Ok := by
 refine ⟨fun W W' (h : MidAt W b rv k g l n f) hk => ⟨(hk b (.inl rfl)).trans h.top, ownsRow_kept h.row fun k e => hk k (.inr (.inr e)), mapU_kept h.mp (hk k (.inr (.inl rfl)))⟩, fun W (h : MidAt W b rv k g l n f) j hj => ?_⟩
 rcases hj with rfl | hj | hj
 ·exact (Array.getElem?_eq_some_iff.1 h.top).1
 ·injection hj with hj; rw [<- hj]; exact mapU_lt h.mp
 ·exact ownsRow_lt h.row j hj
theorem MidAt.apart {W : World} {b : Nat} {rv : Value} {k g : Nat} {l : List Nat} {n : Nat} {f : Int -> Option Value} (h : MidAt W b rv k g l n f) : k ≠ b /\ rv.ownBlock ≠ some k /\ ∀ j, rv.ownBlock = some j -> j ≠ b := by
 obtain ⟨es, c, h3⟩ := mapU_block h.mp
 refine ⟨fun x => ?_, fun x => ?_, fun j e x => ?_⟩
 ·have := h.top; rw [<- x, h3] at this; injection this with this; cases this
 ·obtain ⟨C, h4⟩ := ownsRow_block h.row k x
  rw [h3] at h4; injection h4 with h4; cases h4
 ·obtain ⟨C, h4⟩ := ownsRow_block h.row j e
  have := h.top
  rw [<- x, h4] at this
  simp at this
theorem md_of {v W : World} {os : List Thing} {b : Nat} {rv : Value} {k : Nat} {p : MPast} (H : Fr v W (paT b rv (some k) p :: os)) : Fr v W (mdT b rv k p.great (p.L.map (·.1)) p.L.length (vP p.L) :: os) := by
 have h : PastAt W b rv (some k) p := H.hd
 refine H.turn (o' := mdT b rv k p.great (p.L.map (·.1)) p.L.length (vP p.L)) ⟨Turns.refl _ W, fun j hj => .inl hj⟩ ⟨h.top, by rw [List.length_map]; exact h.row, ?_⟩ (mdT_ok _ _ _ _ _ _ _)
 rcases h.mp with ⟨e, _⟩ | ⟨k', e, h2⟩
 ·cases e
 ·injection e with e; rw [e]; exact h2
theorem pa_of {v W : World} {os : List Thing} {b : Nat} {rv : Value} {k : Nat} {p : MPast} {f : Int -> Option Value} (H : Fr v W (mdT b rv k p.great (p.L.map (·.1)) p.L.length f :: os)) (hf : f = vP p.L) (ok : p.Ok) : Fr v W (paT b rv (some k) p :: os) := by
 have h : MidAt W b rv k p.great (p.L.map (·.1)) p.L.length f := H.hd
 exact H.turn (o' := paT b rv (some k) p) ⟨Turns.refl _ W, fun j hj => .inl hj⟩ ⟨h.top, by have := h.row; rwa [List.length_map] at this, .inr ⟨k, rfl, hf ▸ h.mp⟩, ok⟩ (paT_ok _ _ _ _)
theorem md_great {v W : World} {os : List Thing} {b : Nat} {rv : Value} {k g : Nat} {l : List Nat} {n : Nat} {f : Int -> Option Value} (H : Fr v W (mdT b rv k g l n f :: os)) (x : Nat) :
  Fr v (W.setCell ⟨b, 2, none⟩ (.int .u64 (x : Int))) (mdT b rv k x l n f :: os) := by
 have h : MidAt W b rv k g l n f := H.hd
 obtain ⟨a1, a2, a3⟩ := h.apart
 exact H.turn (o' := mdT b rv k x l n f) (Own.same ((Turns.refl _ W).setCell (.inl (.inl rfl)) 2 _)) ⟨heap_set h.top _, ownsRow_kept h.row fun j e => Below.heap_setCell W ⟨b, 2, none⟩ _ j (a3 j e), mapU_kept h.mp (Below.heap_setCell W ⟨b, 2, none⟩ _ k a1)⟩ (mdT_ok _ _ _ _ _ _ _)
theorem md_put {v W : World} {os : List Thing} {b : Nat} {rv : Value} {k g : Nat} {l : List Nat} {n : Nat} {f : Int -> Option Value} (H : Fr v W (mdT b rv k g l n f :: os)) (hn : n <= 2000000000) {x : Nat} (hx : x < 18446744073709551616) (val : Value) :
  ∃ W', (Instr.mapUpdate 134 (.map (some k)) (.int .u64 (x : Int)) val).run Tryz.prog W = .ok () W' /\ Fr v W' (mdT b rv k g l (if (f (x : Int)).isSome then n else n + 1) (upd f (x : Int) (some val)) :: os) := by
 have h : MidAt W b rv k g l n f := H.hd
 obtain ⟨a1, a2, a3⟩ := h.apart
 obtain ⟨W', r1, r2, r3⟩ := mapU_update h.mp hn (u64_of (x := (x : Int)) (by omega)) val
 have hb : b < W.heap.size := (Array.getElem?_eq_some_iff.1 h.top).1
 exact ⟨W', r1, H.turn (o' := mdT b rv k g l (if (f (x : Int)).isSome then n else n + 1) (upd f (x : Int) (some val))) (Own.same ((Turns.refl _ W).grown r3 fun j e => by cases e; exact .inl (.inr (.inl rfl))))
  ⟨(r3.block b hb fun e => a1 (Option.some.inj e).symm).trans h.top, ownsRow_kept h.row fun j e => r3.block j (ownsRow_lt h.row j e) fun x => a2 (by rw [e, x]), r2⟩ (mdT_ok _ _ _ _ _ _ _)⟩
theorem md_row {v W : World} {os : List Thing} {b : Nat} {rv : Value} {k g : Nat} {l : List Nat} {n : Nat} {f : Int -> Option Value} (H : Fr v W (mdT b rv k g l n f :: os)) (ty : TypeId) (gb : Nat) (x : Nat) (hg : W.cell? ⟨gb, 0, none⟩ = some (.int .u64 (x : Int))) (hl : l.length <= 2000000000) :
  ∃ rv' W', (Builtin.append_ #[62, 62] ty #[rv, .slice (some ⟨gb, 0, none⟩) 1 1]).run Tryz.prog W = .ok rv' W' /\ W'.frozen? ⟨b, 0, none⟩ = false /\ (∃ c, W'.cell? ⟨b, 0, none⟩ = some c) /\ Fr v (W'.setCell ⟨b, 0, none⟩ rv') (mdT b rv' k g (l ++ [x]) n f :: os) := by
 have h : MidAt W b rv k g l n f := H.hd
 obtain ⟨a1, a2, a3⟩ := h.apart
 have hb : b < W.heap.size := (Array.getElem?_eq_some_iff.1 h.top).1
 have hk : k < W.heap.size := mapU_lt h.mp
 obtain ⟨i0, h1, h2, h3, h4⟩ := info_parts Tryz.inf23
 obtain ⟨v', w', hr, hrow, hgr, _, hat⟩ := run_append_own_at (P := Tryz.prog) W 0 62 ty 25 i0 (.int .u64 0) 1 8 Tryz.underlying62 h1 h2 h3 h4 rfl (by decide) rv l.length (nv .u64 l) h.row ⟨gb, 0, none⟩ 1 1 [.int .u64 (x : Int)] rfl
  (fun j u hj => by
   have : j = 0 := by have := (List.getElem?_eq_some_iff.1 hj).1; simp at this; omega
   subst this
   simp at hj
   subst hj
   rw [add_at]
   exact hg) (by intro u hu; rw [List.mem_singleton.1 hu]; rfl) (by unfold maxLen; omega) (by omega) (Nat.zero_le _)
 have hbt : w'.heap[b]? = some (.cells (paC rv (some k) g).toArray 136 (0, 0)) := (hgr.block b hb fun e => a3 b e.symm rfl).trans h.top
 have hn' : ∀ j, v'.ownBlock = some j -> j ≠ b := fun j hj x => by
  rcases hat with e | e
  ·rw [e] at hj; exact a3 j hj x
  ·rw [e] at hj; injection hj with hj; omega
 refine ⟨v', w', hr, free_block hbt 0, ⟨_, block_cell hbt 0 _ rfl⟩, H.turn (o' := mdT b v' k g (l ++ [x]) n f) ⟨((Turns.refl _ W).grown hgr fun j e => .inl (.inr (.inr e))).setCell (.inl (.inl rfl)) 0 _, fun j hj => ?_⟩ ⟨heap_set hbt _, ?_, ?_⟩ (mdT_ok _ _ _ _ _ _ _)⟩
 ·rcases hj with rfl | hj | hj
  ·exact .inl (.inl rfl)
  ·exact .inl (.inr (.inl hj))
  ·rcases hat with e | e
   ·exact .inl (.inr (.inr (e.symm.trans hj)))
   ·rw [e] at hj; injection hj with hj; exact .inr (Nat.le_of_eq hj)
 ·refine ownsRow_kept (W := w') ?_ fun j e => Below.heap_setCell w' ⟨b, 0, none⟩ _ j (hn' j e)
  rw [nv_app, List.length_append]
  exact hrow
 ·exact mapU_kept h.mp ((Below.heap_setCell w' ⟨b, 0, none⟩ _ k a1).trans (hgr.block k hk (Ne.symm a2)))
open Go.RowKit
theorem MidAt.cells {W : World} {b : Nat} {rv : Value} {k g : Nat} {l : List Nat} {n : Nat} {f : Int -> Option Value} (h : MidAt W b rv k g l n f) : W.cell? ⟨b, 0, none⟩ = some rv /\ W.cell? ⟨b, 1, none⟩ = some (.map (some k)) /\ W.cell? ⟨b, 2, none⟩ = some (.int .u64 (g : Int)) /\ W.frozen? ⟨b, 2, none⟩ = false :=
 ⟨block_cell h.top 0 _ rfl, block_cell h.top 1 _ rfl, block_cell h.top 2 _ rfl, free_block h.top 2⟩
theorem eq50_some (k : Nat) (W : World) : (binOp BinOp.eql 134 (.map (some k)) (.map none)).run Tryz.prog W = .ok (.bool false) W := by kernel_rfl
theorem eq50_none (W : World) : (binOp BinOp.eql 134 (.map none) (.map none)).run Tryz.prog W = .ok (.bool true) W := by kernel_rfl
theorem make50 (W : World) : (Instr.makeMap 134 none).run Tryz.prog W = .ok (.map (some W.heap.size)) (W.alloc (.map #[] 0)) := by kernel_rfl
theorem vP_add {L : List (Nat × Nat)} {x n : Nat} (h : vot L x = none) : upd (vP L) (x : Int) (some (.int .i64 (n : Int))) = vP (L ++ [(x, n)]) := by
 funext y
 by_cases e : y = (x : Int)
 ·subst e
  rw [upd_same, vP_nat, vot_snoc x x n L (.inl h), if_pos rfl]; rfl
 ·rw [upd_other _ _ e, vP, vP]
  by_cases h0 : 0 <= y
  ·rw [if_pos h0, if_pos h0, vot_snoc x y.toNat n L (.inr (by omega)), if_neg (by omega)]
  ·rw [if_neg h0, if_neg h0]
theorem enter_some {v W : World} {os : List Thing} {b : Nat} {rv : Value} {k : Nat} {p : MPast} (H : Fr v W (paT b rv (some k) p :: os)) {x n : Nat} (hx : x < 1073741824) (hg : p.great <= x) (hn : n <= 9223372036854775807) (hv : vot p.L x = none) :
  Calls Tryz.prog 58 #[.pointer (some ⟨b, 0, none⟩), .int .u64 (x : Int), .int .i64 (n : Int)] W fun E W' => E = .returned (.tuple #[]) /\ ∃ rv', Fr v W' (paT b rv' (some k) (p.add x n) :: os) := by
 have h : PastAt W b rv (some k) p := H.hd
 have hok := h.ok
 obtain ⟨A, c, rfl, _⟩ := row_shape h.row
 obtain ⟨c0, c1, c2⟩ := h.cells
 have HB := iq (md_of H)
 have e1 := eq50_some k
 have HOk := iq (hok.add hx hg hn hv)
 have HLn := iq hok.len
 have HV := iq hv
 have HX := iq hx
 clear H h hok hv hn hg
 have HC := iq (HB.out.below (bl.alloc (Nat.le_refl _) (.cells #[.int .u64 (x : Int)] 25)))
 obtain ⟨rv', W1, r1, f0, ⟨y0, d0⟩, h1⟩ := md_row HC.out 62 W.heap.size x (block_cell (C := [.int .u64 (x : Int)]) (heap_alloc_new W _) 0 _ rfl) (by rw [List.length_map]; have := HLn.out; omega)
 obtain ⟨A', c', rfl, _⟩ := row_shape (MidAt.row h1.hd)
 obtain ⟨m, hm⟩ : ∃ m, m = (p.L.map (·.1) ++ [x]).length := ⟨_, rfl⟩
 rw [<- hm] at r1 h1
 clear hm
 obtain ⟨W2, hW2⟩ : ∃ X, X = W1.setCell ⟨b, 0, none⟩ (.slice A' m c') := ⟨_, rfl⟩
 rw [<- hW2] at h1
 have H1 := iq h1
 have hc2 := (MidAt.cells h1.hd).2.1
 rw [hW2] at hc2
 obtain ⟨W3, r3, h3⟩ := md_put h1 (by have := HLn.out; omega) (x := x) (by have := HX.out; omega) (.int .i64 (n : Int))
 rw [hW2] at r3
 have hc3 := (MidAt.cells h3.hd).2.2.1
 have hf3 := (MidAt.cells h3.hd).2.2.2
 have H4 := iq (md_great h3 x)
 have HF : Hid (Fr v (W3.setCell ⟨b, 2, none⟩ (.int .u64 (x : Int))) (paT b (.slice A' m c') (some k) (p.add x n) :: os)) := iq (by
  have h5 := H4.out
  have hz : ((vP p.L) (x : Int)).isSome = false := by rw [vP_nat, HV.out]; rfl
  rw [hz, vP_add HV.out] at h5
  refine pa_of (p := p.add x n) (f := vP (p.add x n).L) ?_ rfl HOk.out
  have e1 : ((p.add x n).L.map (·.1)) = p.L.map (·.1) ++ [x] := by simp [MPast.add]
  have e2 : (p.add x n).L.length = p.L.length + 1 := by simp [MPast.add]
  rw [e1, e2]
  exact h5)
 clear HB HC h1 h3 hW2 H1 H4
 go_enter Tryz.func58, Tryz.ntmps58
 go_wp2_with (first
  | ((with_reducible refine wpList_append_one ?_ (.tmp 19) (.tmp 21) 62 ?_ _ _ ?_ ?_ _ W1 r1 ?_); rfl; rfl; rfl; rfl)
  | ((with_reducible refine wpList_mapUpd ?_ (.tmp 28) (.tmp 29) (.tmp 30) 134 ?_ _ _ _ ?_ ?_ ?_ W3 r3 ?_); rfl; rfl; rfl; rfl; rfl))
 try simp only [Exit.inBlock, Exit.then]
 exact bodyPost_end (results_none rfl _ _ _) rfl ⟨rfl, _, HF.out⟩
theorem enter_none {v W : World} {os : List Thing} {b : Nat} {rv : Value} {p : MPast} (H : Fr v W (paT b rv none p :: os)) {x n : Nat} (hx : x < 1073741824) (hg : p.great <= x) (hn : n <= 9223372036854775807) (hv : vot p.L x = none) :
  Calls Tryz.prog 58 #[.pointer (some ⟨b, 0, none⟩), .int .u64 (x : Int), .int .i64 (n : Int)] W fun E W' => E = .returned (.tuple #[]) /\ ∃ rv' k, Fr v W' (paT b rv' (some k) (p.add x n) :: os) := by
 have h : PastAt W b rv none p := H.hd
 have hok := h.ok
 obtain ⟨A, c, rfl, _⟩ := row_shape h.row
 obtain ⟨c0, c1, c2⟩ := h.cells
 have h0 := pa_made H
 have fA : (W.alloc (.map #[] 0)).frozen? ⟨b, 1, none⟩ = false := PastAt.free (H.below (bl.alloc (Nat.le_refl _) (.map #[] 0))).hd 1
 have gA : (W.alloc (.map #[] 0)).cell? ⟨b, 1, none⟩ = some (.map none) := (PastAt.cells (H.below (bl.alloc (Nat.le_refl _) (.map #[] 0))).hd).2.1
 obtain ⟨k, hk⟩ : ∃ k, k = W.heap.size := ⟨_, rfl⟩
 rw [<- hk] at h0
 obtain ⟨W0, hW0⟩ : ∃ X, X = (W.alloc (.map #[] 0)).setCell ⟨b, 1, none⟩ (.map (some k)) := ⟨_, rfl⟩
 have hz0 : W0.heap.size = W.heap.size + 1 := by rw [hW0]; simp [World.setCell]
 rw [<- hW0] at h0
 have HB := iq (md_of h0)
 have b0 := (MidAt.cells HB.out.hd).1
 have b1 := (MidAt.cells HB.out.hd).2.1
 have e1 := eq50_none
 have e2 := make50
 have HOk := iq (hok.add hx hg hn hv)
 have HLn := iq hok.len
 have HV := iq hv
 have HX := iq hx
 clear H h hok hv hn hg
 have HC := iq (HB.out.below (W' := W0.alloc (.cells #[.int .u64 (x : Int)] 25)) (bl.alloc (Nat.le_refl _) (.cells #[.int .u64 (x : Int)] 25)))
 obtain ⟨rv', W1, r1, f0, ⟨y0, d0⟩, h1⟩ := md_row HC.out 62 W0.heap.size x (block_cell (C := [.int .u64 (x : Int)]) (heap_alloc_new W0 _) 0 _ rfl) (by rw [List.length_map]; have := HLn.out; omega)
 obtain ⟨A', c', rfl, _⟩ := row_shape (MidAt.row h1.hd)
 obtain ⟨m, hm⟩ : ∃ m, m = (p.L.map (·.1) ++ [x]).length := ⟨_, rfl⟩
 rw [<- hm] at r1 h1
 clear hm
 obtain ⟨W2, hW2⟩ : ∃ X, X = W1.setCell ⟨b, 0, none⟩ (.slice A' m c') := ⟨_, rfl⟩
 rw [<- hW2] at h1
 have H1 := iq h1
 have hc2 := (MidAt.cells h1.hd).2.1
 rw [hW2] at hc2
 obtain ⟨W3, r3, h3⟩ := md_put h1 (by have := HLn.out; omega) (x := x) (by have := HX.out; omega) (.int .i64 (n : Int))
 rw [hW2] at r3
 have hc3 := (MidAt.cells h3.hd).2.2.1
 have hf3 := (MidAt.cells h3.hd).2.2.2
 have H4 := iq (md_great h3 x)
 have HF : Hid (Fr v (W3.setCell ⟨b, 2, none⟩ (.int .u64 (x : Int))) (paT b (.slice A' m c') (some k) (p.add x n) :: os)) := iq (by
  have h5 := H4.out
  have hz : ((vP p.L) (x : Int)).isSome = false := by rw [vP_nat, HV.out]; rfl
  rw [hz, vP_add HV.out] at h5
  refine pa_of (p := p.add x n) (f := vP (p.add x n).L) ?_ rfl HOk.out
  have e1 : ((p.add x n).L.map (·.1)) = p.L.map (·.1) ++ [x] := by simp [MPast.add]
  have e2 : (p.add x n).L.length = p.L.length + 1 := by simp [MPast.add]
  rw [e1, e2]
  exact h5)
 clear HB HC h1 h3 hW2 H1 H4 h0
 rw [hz0, hW0] at r1
 rw [hW0] at b0 b1
 rw [hk] at r1 b0 b1
 clear hW0 hz0
 have HK := iq hk
 clear hk
 go_enter Tryz.func58, Tryz.ntmps58
 go_wp2_with (first
  | ((with_reducible refine wpList_append_one ?_ (.tmp 19) (.tmp 21) 62 ?_ _ _ ?_ ?_ _ W1 r1 ?_); rfl; rfl; rfl; rfl)
  | ((with_reducible refine wpList_mapUpd ?_ (.tmp 28) (.tmp 29) (.tmp 30) 134 ?_ _ _ _ ?_ ?_ ?_ W3 r3 ?_); rfl; rfl; rfl; rfl; rfl))
 try simp only [Exit.inBlock, Exit.then]
 exact bodyPost_end (results_none rfl _ _ _) rfl ⟨rfl, _, _, HF.out⟩
open Go.RowKit
def PaIs (v W : World) (os : List Thing) (b : Nat) (p : MPast) : Prop := ∃ rv mb, Fr v W (paT b rv mb p :: os)
theorem enter_any {v W : World} {os : List Thing} {b : Nat} {rv : Value} {mb : Option Nat} {p : MPast} (H : Fr v W (paT b rv mb p :: os)) {x n : Nat} (hx : x < 1073741824) (hg : p.great <= x) (hn : n <= 9223372036854775807) (hv : vot p.L x = none) :
  Calls Tryz.prog 58 #[.pointer (some ⟨b, 0, none⟩), .int .u64 (x : Int), .int .i64 (n : Int)] W fun E W' => E = .returned (.tuple #[]) /\ PaIs v W' os b (p.add x n) := by
 cases mb with
 | none => exact (enter_none H hx hg hn hv).mono fun E W' ⟨e, rv', k, h⟩ => ⟨e, rv', some k, h⟩
 | some k => exact (enter_some H hx hg hn hv).mono fun E W' ⟨e, rv', h⟩ => ⟨e, rv', some k, h⟩
def MPast.new : MPast := ⟨[(0, 0)], 0⟩
theorem pa_empty {v W : World} {os : List Thing} (H : Fr v W os) : Fr v (W.alloc (.cells (paC (.slice none 0 0) none 0).toArray 136)) (paT W.heap.size (.slice none 0 0) none ⟨[], 0⟩ :: os) :=
 H.add (bl.alloc (Nat.le_refl _) _) (o := paT W.heap.size (.slice none 0 0) none ⟨[], 0⟩)
  ⟨heap_alloc_new W _, World.ownsRow_nil _ _ _ _, .inl ⟨rfl, rfl⟩, ⟨List.Pairwise.nil, fun _ h => (by cases h), by decide⟩⟩ (paT_ok _ _ _ _)
  fun k hk => by rcases hk with rfl | hk | hk <;> first | exact Nat.le_refl _ | cases hk
theorem pnew_any {v W : World} {os : List Thing} (H : Fr v W os) : Calls Tryz.prog 34 #[] W fun E W' => ∃ b, E = .returned (.pointer (some ⟨b, 0, none⟩)) /\ PaIs v W' os b .new := by
 have h1 := enter_any (pa_empty H) (x := 0) (n := 0) (by decide) (Nat.le_refl _) (by decide) rfl
 have H1 : Hid (Calls Tryz.prog 58 #[.pointer (some ⟨W.heap.size, 0, none⟩), .int .u64 0, .int .i64 0] (W.alloc (.cells #[.slice none 0 0, .map none, .int .u64 0] 136)) fun E W' => E = .returned (.tuple #[]) /\ PaIs v W' os W.heap.size .new) := iq h1
 clear h1 H
 go_enter Tryz.func34, Tryz.ntmps34
 go_wp2_with (go_at_call 58; refine H1.out.mono ?_; rintro E w1 ⟨rfl, h⟩; have h' := iq h; clear h)
 go_ret
 exact ⟨_, rfl, h'.out⟩
theorem vP_bump {p : MPast} {n : Nat} (h : vot p.L p.great = some n) : upd (vP p.L) (p.great : Int) (some (.int .i64 ((n + 1 : Nat) : Int))) = vP p.bump.L := by
 funext y
 show _ = vP (bump p.L p.great) y
 by_cases e : y = (p.great : Int)
 ·subst e
  rw [upd_same, vP_nat, vot_bump, if_pos rfl, h]; rfl
 ·rw [upd_other _ _ e, vP, vP]
  by_cases h0 : 0 <= y
  ·rw [if_pos h0, if_pos h0, vot_bump, if_neg (by omega)]
  ·rw [if_neg h0, if_neg h0]
theorem pa_bump {v W : World} {os : List Thing} {b : Nat} {rv : Value} {mb : Option Nat} {p : MPast} (H : Fr v W (paT b rv mb p :: os)) {n : Nat} (h : vot p.L p.great = some n) (hn : n < 9223372036854775807) :
  ∃ W', (Instr.mapUpdate 134 (.map mb) (.int .u64 (p.great : Int)) (.int .i64 ((n + 1 : Nat) : Int))).run Tryz.prog W = .ok () W' /\ PaIs v W' os b p.bump := by
 have hp : PastAt W b rv mb p := H.hd
 have hok := hp.ok
 rcases hp.mp with ⟨_, e⟩ | ⟨k, e, _⟩
 ·rw [e] at h; cases h
 ·subst e
  obtain ⟨W', r1, h1⟩ := md_put (md_of H) (by have := hok.len; omega) (x := p.great) (by have := hok.top; omega) (.int .i64 ((n + 1 : Nat) : Int))
  refine ⟨W', r1, rv, some k, ?_⟩
  have hz : ((vP p.L) (p.great : Int)).isSome = true := by rw [vP_nat, h]; rfl
  rw [hz, vP_bump h] at h1
  refine pa_of (p := p.bump) (f := vP p.bump.L) ?_ rfl (hok.bump h hn)
  have e1 : (p.bump.L.map (·.1)) = p.L.map (·.1) := bump_fst _ _
  have e2 : p.bump.L.length = p.L.length := bump_length _ _
  rw [e1, e2]
  exact h1
def prp (p : MPast) (x : Nat) : Bool × MPast := if opn p x = true /\ vot p.L x ≠ some 9223372036854775807 then (true, p.bump) else (false, p)
theorem PaIs.drewN {v W : World} {os : List Thing} {b : Nat} {p : MPast} (h : PaIs v W os b p) (n : Nat) : PaIs v (W.drewN n) os b p := let ⟨rv, mb, H⟩ := h; ⟨rv, mb, H.drewN n⟩
theorem opn_true {p : MPast} {x : Nat} (h : opn p x = true) : x = p.great /\ ∃ n, vot p.L x = some n := by
 simp only [opn, Bool.and_eq_true, decide_eq_true_eq] at h
 exact ⟨h.2, Option.isSome_iff_exists.1 h.1⟩
theorem Prepare_any {v W : World} {os : List Thing} {b : Nat} {p : MPast} (HP : PaIs v W os b p) {x : Nat} (hx : x < 18446744073709551616) :
  Calls Tryz.prog 99 #[.pointer (some ⟨b, 0, none⟩), .int .u64 (x : Int)] W fun E W' => E = .returned (.bool (prp p x).1) /\ PaIs v W' os b (prp p x).2 := by
 obtain ⟨rv, mb, H⟩ := HP
 have h : PastAt W b rv mb p := H.hd
 have HH : Hid (PaIs v W os b p) := iq ⟨rv, mb, H⟩
 have HO := iq (open_any h hx)
 cases ho : opn p x with
 | false =>
  rw [prp, if_neg (by rw [ho]; simp)]
  rw [ho] at HO
  generalize (((vot p.L x).getD 0 : Nat) : Int) = n at HO
  clear H h ho
  go_enter Tryz.func99, Tryz.ntmps99
  go_wp2_with (go_at_call 127; refine HO.out.mono ?_; rintro E w1 ⟨rfl, nq, rfl⟩)
  go_ret
  exact ⟨rfl, HH.out.drewN _⟩
 | true =>
  obtain ⟨e1, n, e2⟩ := opn_true ho
  rw [ho, e2] at HO
  simp only [Option.getD_some] at HO
  have hle : n <= 9223372036854775807 := (h.ok.le _ (vot_mem e2)).2
  by_cases hm : n = 9223372036854775807
  ·rw [prp, if_neg (by rw [e2, hm]; simp)]
   subst hm
   clear H h ho e1 e2
   go_enter Tryz.func99, Tryz.ntmps99
   go_wp2_with (go_at_call 127; refine HO.out.mono ?_; rintro E w1 ⟨rfl, nq, rfl⟩)
   go_ret
   exact ⟨rfl, HH.out.drewN _⟩
  ·rw [prp, if_pos ⟨ho, by rw [e2]; simpa using hm⟩]
   have hlt : n < 9223372036854775807 := by omega
   rw [e1] at e2
   have HB : Hid (∀ q, ∃ W', (Instr.mapUpdate 134 (.map mb) (.int .u64 (p.great : Int)) (.int .i64 ((n : Int) + 1))).run Tryz.prog (W.drewN q) = .ok () W' /\ PaIs v W' os b p.bump) := iq fun q => pa_bump (H.drewN q) e2 hlt
   have HC : Hid (∀ q, (W.drewN q).cell? ⟨b, 1, none⟩ = some (.map mb)) := iq fun q => (PastAt.cells (H.drewN q).hd).2.1
   subst e1
   have hne : ((n : Int) == 9223372036854775807) = false := by simp; omega
   have hw : IntKind.i64.wrap ((n : Int) + 1) = (n : Int) + 1 := by rw [IntKind.wrap_i64]; omega
   have hn0 : (0 : Int) <= (n : Int) := by omega
   have hn1 : (n : Int) < 9223372036854775807 := by omega
   clear H h ho e2 hm hlt hle
   generalize (n : Int) = m at *
   go_enter Tryz.func99, Tryz.ntmps99
   go_wp2_with (first
    | (go_at_call 127; refine HO.out.mono ?_; rintro E w1 ⟨rfl, nq, rfl⟩; obtain ⟨W', r1, h1⟩ := HB.out nq; have H1 := iq h1; have c1 := HC.out nq; clear h1)
    | ((with_reducible refine wpList_mapUpd ?_ (.tmp 22) (.tmp 23) (.tmp 25) 134 ?_ _ _ _ ?_ ?_ ?_ _ (by assumption) ?_); rfl; rfl; rfl; rfl; rfl))
   go_ret
   exact ⟨rfl, H1.out⟩
open Go.RowKit
def cmt (p : MPast) (x k : Nat) (most : Int) : Bool × MPast := if opn p x = true /\ k = (vot p.L x).getD 0 + 1 /\ (((vot p.L x).getD 0 : Nat) : Int) < most then (true, p.bump) else (false, p)
theorem wrap_conv (n : Nat) (h : n <= 9223372036854775807) : IntKind.u64.wrap (n : Int) = (n : Int) /\ IntKind.u64.wrap ((n : Int) + 1) = (n : Int) + 1 := by
 constructor <;> (rw [IntKind.wrap_u64]; omega)
theorem Commit_any {v W : World} {os : List Thing} {b : Nat} {p : MPast} (HP : PaIs v W os b p) {x k : Nat} (hx : x < 18446744073709551616) {most : Int} (hm : most <= 9223372036854775807) :
  Calls Tryz.prog 101 #[.pointer (some ⟨b, 0, none⟩), .int .u64 (x : Int), .int .u64 (k : Int), .int .i64 most] W fun E W' => E = .returned (.bool (cmt p x k most).1) /\ PaIs v W' os b (cmt p x k most).2 := by
 obtain ⟨rv, mb, H⟩ := HP
 have h : PastAt W b rv mb p := H.hd
 have HH : Hid (PaIs v W os b p) := iq ⟨rv, mb, H⟩
 have HO := iq (open_any h hx)
 cases ho : opn p x with
 | false =>
  rw [cmt, if_neg (by rw [ho]; simp)]
  rw [ho] at HO
  generalize (((vot p.L x).getD 0 : Nat) : Int) = n at HO
  clear H h ho hx hm
  go_enter Tryz.func101, Tryz.ntmps101
  go_wp2_with (go_at_call 127; refine HO.out.mono ?_; rintro E w1 ⟨rfl, nq, rfl⟩)
  go_ret
  exact ⟨rfl, HH.out.drewN _⟩
 | true =>
  obtain ⟨e1, n, e2⟩ := opn_true ho
  rw [ho, e2] at HO
  simp only [Option.getD_some] at HO
  have hle : n <= 9223372036854775807 := (h.ok.le _ (vot_mem e2)).2
  obtain ⟨hw1, hw2⟩ := wrap_conv n hle
  by_cases h1 : k = n + 1
  ·by_cases h2 : (n : Int) < most
   ·rw [cmt, if_pos ⟨ho, by rw [e2]; exact h1, by rw [e2]; exact h2⟩]
    have hlt : n < 9223372036854775807 := by omega
    rw [e1] at e2
    have HB : Hid (∀ q, ∃ W', (Instr.mapUpdate 134 (.map mb) (.int .u64 (p.great : Int)) (.int .i64 ((n : Int) + 1))).run Tryz.prog (W.drewN q) = .ok () W' /\ PaIs v W' os b p.bump) := iq fun q => pa_bump (H.drewN q) e2 hlt
    have HC : Hid (∀ q, (W.drewN q).cell? ⟨b, 1, none⟩ = some (.map mb)) := iq fun q => (PastAt.cells (H.drewN q).hd).2.1
    subst e1
    have hk : ((k : Int) != (n : Int) + 1) = false := by simp; omega
    have hk2 : ((k : Int) == (n : Int) + 1) = true := by simp; omega
    have hd : decide (most <= (n : Int)) = false := decide_eq_false (by omega)
    have hw : IntKind.i64.wrap ((n : Int) + 1) = (n : Int) + 1 := by rw [IntKind.wrap_i64]; omega
    have hn0 : (0 : Int) <= (n : Int) := by omega
    have hn1 : (n : Int) < 9223372036854775807 := by omega
    clear H h ho e2 hlt hle h1 h2 hx hm
    generalize (n : Int) = m at *
    generalize (k : Int) = k' at *
    go_enter Tryz.func101, Tryz.ntmps101
    go_wp2_with (first
     | (go_at_call 127; refine HO.out.mono ?_; rintro E w1 ⟨rfl, nq, rfl⟩; obtain ⟨W', r1, h1⟩ := HB.out nq; have H1 := iq h1; have c1 := HC.out nq; clear h1)
     | ((with_reducible refine wpList_mapUpd ?_ (.tmp 34) (.tmp 35) (.tmp 37) 134 ?_ _ _ _ ?_ ?_ ?_ _ (by assumption) ?_); rfl; rfl; rfl; rfl; rfl))
    go_ret
    exact ⟨rfl, H1.out⟩
   ·rw [cmt, if_neg (by rw [e2]; intro hh; exact h2 hh.2.2)]
    have hk : ((k : Int) != (n : Int) + 1) = false := by simp; omega
    have hk2 : ((k : Int) == (n : Int) + 1) = true := by simp; omega
    have hd : decide (most <= (n : Int)) = true := decide_eq_true (by omega)
    clear H h ho e1 e2 hle h1 h2 hx hm
    generalize (n : Int) = m at *
    generalize (k : Int) = k' at *
    go_enter Tryz.func101, Tryz.ntmps101
    go_wp2_with (go_at_call 127; refine HO.out.mono ?_; rintro E w1 ⟨rfl, nq, rfl⟩)
    go_ret
    exact ⟨rfl, HH.out.drewN _⟩
  ·rw [cmt, if_neg (by rw [e2]; intro hh; exact h1 hh.2.1)]
   have hk : ((k : Int) != (n : Int) + 1) = true := by simp; omega
   have hk2 : ((k : Int) == (n : Int) + 1) = false := by simp; omega
   clear H h ho e1 e2 hle h1 hx hm
   generalize (n : Int) = m at *
   generalize (k : Int) = k' at *
   go_enter Tryz.func101, Tryz.ntmps101
   go_wp2_with (go_at_call 127; refine HO.out.mono ?_; rintro E w1 ⟨rfl, nq, rfl⟩)
   go_ret
   exact ⟨rfl, HH.out.drewN _⟩
end Go.Proofs.YtknpcmadghkaaaaGreatDoor.Sh
