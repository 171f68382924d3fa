/-
  What is proved: things in memory beside each other: what one does to its own blocks leaves the others as they were. Conditions as stated.
  What is proved: numbers and texts as bytes; the program's word. Conditions as stated.
  What is proved: a number and a text told to a function that takes bytes. Conditions as stated.
  What is proved: a text told to a function that takes bytes; a state's bytes. Conditions as stated.
  What is proved: a state in memory; its bytes told to a function that takes bytes. Conditions as stated.
  What is proved: a state's bytes told to a function that takes bytes. Conditions as stated.
  What is proved: the two functions that take a state's bytes: one that puts them behind each other, one that makes their digest. Conditions as stated.
-/
import Derived.Test.YtpageppjngbnpaaDoorAK
import Derived.Test.YtpageppjngbnpaaDoorSb
import Derived.Maps.AppendAt
import Derived.Lib.ConvBytes
import Derived.Laws.EntriesVeiled
import Derived.Laws.AppendOwnNone
namespace Go.Proofs.YtpageppjngbnpaaDoor
open Go.RowKit
set_option maxRecDepth 100000

/-- What holds of a thing in memory, and which blocks are its. -/
structure Thing where
  P : World → Prop
  F : Nat → Prop
/-- It hangs on its own blocks and the library's variables alone. -/
structure Thing.Ok (o : Thing) : Prop where
  kept : ∀ W W' : World, o.P W → (∀ k, o.F k → W'.heap[k]? = W.heap[k]?) → (∀ k, k < 4 → W'.heap[k]? = W.heap[k]?) → o.P W'
  lt : ∀ W : World, o.P W → ∀ k, o.F k → k < W.heap.size
/-- Things beside each other, all made since w. -/
structure Fr (w W : World) (os : List Thing) : Prop where
  bel : Below w.heap.size w W
  vars : Vars w
  ks : Sh.KIs w
  all : ∀ o ∈ os, o.P W ∧ o.Ok ∧ ∀ k, o.F k → w.heap.size ≤ k
  apart : os.Pairwise fun a b => ∀ k, a.F k → ¬ b.F k
section
variable {w W W' : World} {o o' : Thing} {os os' : List Thing}
theorem Fr.start (hv : Vars w) (hk : Sh.KIs w) : Fr w w [] := ⟨Below.refl _ _, hv, hk, fun _ h => (by cases h), List.Pairwise.nil⟩
theorem Fr.low (H : Fr w W os) : 4 ≤ w.heap.size := H.vars.low
theorem Fr.size (H : Fr w W os) : w.heap.size ≤ W.heap.size := H.bel.size
theorem Fr.varsW (H : Fr w W os) : Vars W := H.vars.below H.bel
theorem Fr.ksW (H : Fr w W os) : Sh.KIs W := fun i hi => (H.bel.cell (p := ⟨0, i, none⟩) (by have := H.low; show 0 < _; omega)).trans (H.ks i hi)
theorem Fr.pos (H : Fr w W os) : 0 < W.heap.size := by have := H.low; have := H.size; omega
theorem Fr.keep (H : Fr w W os) (hb : Below w.heap.size w W') (hk : ∀ o ∈ os, ∀ k, o.F k → W'.heap[k]? = W.heap[k]?) (h5 : ∀ k, k < 4 → W'.heap[k]? = W.heap[k]?) : Fr w W' os :=
  ⟨hb, H.vars, H.ks, fun o ho => ⟨(H.all o ho).2.1.kept W W' (H.all o ho).1 (hk o ho) h5, (H.all o ho).2⟩, H.apart⟩
theorem Fr.below (H : Fr w W os) (hb : Below W.heap.size W W') : Fr w W' os :=
  H.keep (H.bel.trans (hb.mono H.size)) (fun o ho k hk => hb.block k ((H.all o ho).2.1.lt W (H.all o ho).1 k hk)) (fun k hk => hb.block k (by have := H.low; have := H.size; omega))
theorem Fr.drewN (H : Fr w W os) (k : Nat) : Fr w (W.drewN k) os := H.below (below_drewN (Below.refl _ _) k)
theorem Fr.drew (H : Fr w W os) : Fr w W.drew os := H.drewN 1
/-- What is new lies beside. -/
theorem Fr.add (H : Fr w W os) (hb : Below W.heap.size W W') (hp : o.P W') (ok : o.Ok) (hf : ∀ k, o.F k → W.heap.size ≤ k) : Fr w W' (o :: os) := by
  have H' := H.below hb
  refine ⟨H'.bel, H'.vars, H'.ks, fun x hx => ?_, List.Pairwise.cons (fun b hb' k hk hk' => ?_) H'.apart⟩
  · rcases List.mem_cons.1 hx with rfl | hx
    · exact ⟨hp, ok, fun k hk => Nat.le_trans H.size (hf k hk)⟩
    · exact H'.all x hx
  · have h1 := (H.all b hb').2.1.lt W (H.all b hb').1 k hk'
    have := hf k hk
    omega
/-- One does to its own blocks what it wants. -/
theorem Fr.turn (H : Fr w W (o :: os)) (ho : Own W o.F W' o'.F) (hp : o'.P W') (ok : o'.Ok) : Fr w W' (o' :: os) := by
  have hl := H.low
  obtain ⟨h1, h2, h3⟩ := H.all o (List.mem_cons_self ..)
  obtain ⟨ha, hp2⟩ := List.pairwise_cons.1 H.apart
  have hlt : ∀ x ∈ os, ∀ k, x.F k → k < W.heap.size := fun x hx k hk => (H.all x (List.mem_cons_of_mem _ hx)).2.1.lt W (H.all x (List.mem_cons_of_mem _ hx)).1 k hk
  have hbel : Below w.heap.size w W' := H.bel.trans ((ho.1.below H.size fun k hk => h3 k hk).mono (Nat.le_refl _))
  refine ⟨hbel, H.vars, H.ks, fun x hx => ?_, List.Pairwise.cons (fun b hb' k hk hk' => ?_) hp2⟩
  · rcases List.mem_cons.1 hx with rfl | hx
    · exact ⟨hp, ok, fun k hk => (ho.2 k hk).elim (fun e => h3 k e) (fun e => Nat.le_trans H.size e)⟩
    · obtain ⟨g1, g2, g3⟩ := H.all x (List.mem_cons_of_mem _ hx)
      exact ⟨g2.kept W W' g1 (fun k hk => ho.1.block k (hlt x hx k hk) fun e => ha x hx k e hk) (fun k hk => ho.1.block k (by have := H.size; omega) fun e => by have := h3 k e; omega), g2, g3⟩
  · rcases ho.2 k hk with e | e
    · exact ha b hb' k e hk'
    · have := hlt b hb' k hk'
      omega
theorem Fr.sub (H : Fr w W os) (h : os'.Sublist os) : Fr w W os' := ⟨H.bel, H.vars, H.ks, fun o ho => H.all o (h.subset ho), H.apart.sublist h⟩
theorem Fr.pop (H : Fr w W (o :: os)) : Fr w W os := H.sub (List.sublist_cons_self ..)
theorem Fr.perm (H : Fr w W os) (h : os.Perm os') : Fr w W os' :=
  ⟨H.bel, H.vars, H.ks, fun o ho => H.all o (h.mem_iff.2 ho), (h.pairwise_iff (@fun _ _ hxy k hk hk' => hxy k hk' hk)).1 H.apart⟩
theorem Fr.swap {a b : Thing} (H : Fr w W (a :: b :: os)) : Fr w W (b :: a :: os) := H.perm (List.Perm.swap ..)
theorem Fr.third {a b c : Thing} (H : Fr w W (a :: b :: c :: os)) : Fr w W (c :: a :: b :: os) := H.perm ((List.Perm.cons a (List.Perm.swap ..)).trans (List.Perm.swap ..))
theorem Fr.hd (H : Fr w W (o :: os)) : o.P W := (H.all o (List.mem_cons_self ..)).1
theorem Fr.hd2 {a : Thing} (H : Fr w W (a :: o :: os)) : o.P W := H.pop.hd
theorem Fr.hd3 {a b : Thing} (H : Fr w W (a :: b :: o :: os)) : o.P W := H.pop.pop.hd
theorem Fr.ge (H : Fr w W (o :: os)) : ∀ k, o.F k → w.heap.size ≤ k := (H.all o (List.mem_cons_self ..)).2.2
end
theorem Thing.Ok.below {o : Thing} (h : o.Ok) {W W' : World} (hp : o.P W) (h5 : 4 ≤ W.heap.size) (hb : Below W.heap.size W W') : o.P W' :=
  h.kept W W' hp (fun k hk => hb.block k (h.lt W hp k hk)) fun k hk => hb.block k (by omega)
theorem own_below {F F' : Nat → Prop} {W W' : World} (hb : Below W.heap.size W W') (hf : ∀ k, F' k → F k ∨ W.heap.size ≤ k) : Own W F W' F' := ⟨Turns.of_below hb, hf⟩

/-! ### a block that holds just this -/
def blkT (k : Nat) (C : Array Value) (ty : TypeId) : Thing := ⟨fun W => W.heap[k]? = some (.cells C ty (0, 0)), fun j => j = k⟩
theorem blkT_ok (k : Nat) (C : Array Value) (ty : TypeId) : (blkT k C ty).Ok := ⟨fun _ _ h hk _ => (hk k rfl).trans h, fun _ h j hj => by cases hj; exact (Array.getElem?_eq_some_iff.1 h).1⟩
theorem Fr.box {w W : World} {os : List Thing} (H : Fr w W os) (C : Array Value) (ty : TypeId) : Fr w (W.alloc (.cells C ty)) (blkT W.heap.size C ty :: os) :=
  H.add ((Below.refl _ _).alloc (Nat.le_refl _) _) (heap_alloc_new W _) (blkT_ok _ _ _) fun k hk => by cases hk; exact Nat.le_refl _
theorem Fr.box' {w W : World} {os : List Thing} (H : Fr w W os) {k : Nat} (hk : k = W.heap.size) (C : Array Value) (ty : TypeId) : Fr w (W.alloc (.cells C ty)) (blkT k C ty :: os) := by
  subst hk; exact H.box C ty
theorem Fr.set {w W : World} {os : List Thing} {k : Nat} {C : List Value} {ty : TypeId} (H : Fr w W (blkT k C.toArray ty :: os)) (i : Nat) (v : Value) : Fr w (W.setCell ⟨k, i, none⟩ v) (blkT k (C.set i v).toArray ty :: os) :=
  H.turn (Own.same (Turns.setCell (S := (blkT k C.toArray ty).F) (Turns.refl _ W) (.inl rfl) i v)) (heap_set H.hd v) (blkT_ok _ _ _)
theorem own_grown {W W' : World} {k : Nat} {F : Nat → Prop} (hg : W.grownBy W' (some k)) (hk : F k) : Own W F W' F := Own.same ((Turns.refl _ W).grown hg fun g e => by cases e; exact .inl hk)

/-! ### bytes that are told one behind the other -/
/-- The bytes so far lie in a row of the variable in block b. -/
def bytT (b : Nat) (v : Value) (l : List UInt8) : Thing := ⟨fun W => W.heap[b]? = some (.cells #[v] 38 (0, 0)) ∧ W.ownsRow 0 5 1 v l.length (Sh.u8s l), fun k => k = b ∨ v.ownBlock = some k⟩
theorem ownsRow_kept {W W' : World} {B : Nat} {e : TypeId} {s n : Nat} {v : Value} {xs : List Value} (h : W.ownsRow B e s v n xs) (hk : ∀ k, v.ownBlock = some k → W'.heap[k]? = W.heap[k]?) : W'.ownsRow B e s v n xs := by
  obtain ⟨h1, h2⟩ := h
  refine ⟨h1, ?_⟩
  rcases h2 with h2 | ⟨g, cap, cur, rfl, a, b, c⟩
  · exact .inl h2
  · exact .inr ⟨g, cap, cur, rfl, a, (hk g rfl).trans b, c⟩
theorem ownsRow_lt {W : World} {B : Nat} {e : TypeId} {s n : Nat} {v : Value} {xs : List Value} (h : W.ownsRow B e s v n xs) : ∀ k, v.ownBlock = some k → k < W.heap.size := by
  rcases h.2 with ⟨rfl, _⟩ | ⟨g, cap, cur, rfl, _, b, _⟩
  · intro k hk; cases hk
  · intro k hk; cases hk; exact (Array.getElem?_eq_some_iff.1 b).1
theorem bytT_ok (b : Nat) (v : Value) (l : List UInt8) : (bytT b v l).Ok :=
  ⟨fun _ _ h hk _ => ⟨(hk b (.inl rfl)).trans h.1, ownsRow_kept h.2 fun k e => hk k (.inr e)⟩, fun _ h k hk => hk.elim (fun e => by cases e; exact (Array.getElem?_eq_some_iff.1 h.1).1) fun e => ownsRow_lt h.2 k e⟩
/-- The digest so far. -/
def hshT (g : Nat) (l : List UInt8) : Thing := ⟨fun W => Sh.HashIs W g l l.length, fun k => k = g⟩
theorem hshT_ok (g : Nat) (l : List UInt8) : (hshT g l).Ok := by
  refine ⟨fun W W' h hk _ => ?_, fun W h k hk => by cases hk; exact h.lt⟩
  obtain ⟨blk, a, b, c⟩ := h
  exact ⟨blk, a, b, (hk g rfl).trans c⟩
/-- A function that takes bytes and puts them behind those that it took. -/
structure Sink (K : Nat) (first caps : Array Value) (Sk : List UInt8 → Thing → Prop) : Prop where
  ent : ∀ args W, (callFunc K args).run Tryd.prog W = .ok (.enter K args) W
  put : ∀ (w W : World) (os : List Thing) (o : Thing) (l d : List UInt8) (A : Option Addr) (c : Nat), Fr w W (o :: os) → Sk l o → Sh.Rd (fun k => ¬ o.F k) W A d.length d → Sh.Sl A d.length c → l.length + d.length < 70000000000000 →
    Calls Tryd.prog K (first ++ #[.slice A d.length c] ++ caps) W fun E W' => E = .returned (.tuple #[]) ∧ ∃ o', Sk (l ++ d) o' ∧ Fr w W' (o' :: os)
open Go.RowKit
set_option maxRecDepth 100000

/-- A number's eight bytes. -/
def w8 (n : Nat) : List UInt8 := (List.range 8).map fun i => UInt8.ofNat (n / 2 ^ (8 * (7 - i)))
/-- .. and back. -/
def num8 (b : List UInt8) : Nat := b.foldl (fun n x => 256 * n + x.toNat) 0
theorem w8_length (n : Nat) : (w8 n).length = 8 := by simp [w8]
theorem num8_w8 {n : Nat} (h : n < 18446744073709551616) : num8 (w8 n) = n := by
  simp [num8, w8, List.range, List.range.loop]
  omega
theorem num8_lt {b : List UInt8} (h : b.length = 8) : num8 b < 18446744073709551616 := by
  match b, h with
  | [a, b, c, d, e, f, g, i], _ =>
    have := a.toNat_lt; have := b.toNat_lt; have := c.toNat_lt; have := d.toNat_lt; have := e.toNat_lt; have := f.toNat_lt; have := g.toNat_lt; have := i.toNat_lt
    simp [num8]
    omega
theorem w8_num8 {b : List UInt8} (h : b.length = 8) : w8 (num8 b) = b := by
  match b, h with
  | [a, b, c, d, e, f, g, i], _ =>
    have := a.toNat_lt; have := b.toNat_lt; have := c.toNat_lt; have := d.toNat_lt; have := e.toNat_lt; have := f.toNat_lt; have := g.toNat_lt; have := i.toNat_lt
    simp only [num8, w8, List.range, List.range.loop, List.map, List.foldl, List.cons.injEq, and_true]
    refine ⟨?_, ?_, ?_, ?_, ?_, ?_, ?_, ?_⟩ <;> (apply UInt8.toNat_inj.1; rw [UInt8.toNat_ofNat']; simp only [Nat.reducePow, Nat.reduceMul, Nat.reduceSub]; omega)
theorem w8_take (n j : Nat) (hj : j < 8) : (w8 n).take (j + 1) = (w8 n).take j ++ [UInt8.ofNat (n / 2 ^ (8 * (7 - j)))] := by
  rw [List.take_add_one]
  congr 1
  simp [w8, hj]

/-! ### word -/
/-- While the bytes are laid: j of them are. -/
def WdAt (n j : Nat) (w wr : World) : Prop := wr.heap[w.heap.size]? = some (.cells (Sh.u8s ((w8 n).take j) ++ List.replicate (8 - j) (Value.int .u8 0)).toArray 5 (0, 0)) ∧ Below w.heap.size w wr
theorem WdAt.start (n : Nat) (w : World) : WdAt n 0 w (w.alloc (.cells #[.int .u8 0, .int .u8 0, .int .u8 0, .int .u8 0, .int .u8 0, .int .u8 0, .int .u8 0, .int .u8 0] 5)) :=
  ⟨heap_alloc_new w _, (Below.refl _ _).alloc (Nat.le_refl _) _⟩
theorem WdAt.next {n j : Nat} {w wr : World} (h : WdAt n j w wr) (hj : j < 8) : WdAt n (j + 1) w (wr.setCell ⟨w.heap.size, j, none⟩ (.int .u8 ((n : Int) / 2 ^ (8 * (7 - j)) % 256))) := by
  have hc : ((n : Int) / 2 ^ (8 * (7 - j)) % 256) = ((n / 2 ^ (8 * (7 - j)) % 256 : Nat) : Int) := by push_cast; rfl
  rw [hc]
  refine ⟨?_, h.2.setCell (p := ⟨w.heap.size, j, none⟩) (Nat.le_refl _) _⟩
  rw [heap_set h.1 (k := j) (.int .u8 ((n / 2 ^ (8 * (7 - j)) % 256 : Nat) : Int))]
  have hl : (Sh.u8s ((w8 n).take j)).length = j := by simp [Sh.u8s, w8_length]; omega
  have e : 8 - j = (8 - (j + 1)) + 1 := by omega
  rw [List.set_append_right _ _ (by omega), hl, Nat.sub_self, e, List.replicate_succ, List.set_cons_zero, w8_take n j hj]
  rw [Sh.u8s, Sh.u8s, List.map_append, List.append_assoc]
  congr 4
theorem WdAt.cell {n j : Nat} {w wr : World} (h : WdAt n j w wr) (hj : j < 8) : wr.cell? ⟨w.heap.size, j, none⟩ = some (.int .u8 0) := by
  refine block_cell h.1 j _ ?_
  have hl : (Sh.u8s ((w8 n).take j)).length = j := by simp [Sh.u8s, w8_length]; omega
  rw [List.getElem?_append_right (by omega), hl, Nat.sub_self]
  rw [List.getElem?_replicate, if_pos (by omega)]
theorem WdAt.fin {n : Nat} {w wr : World} (h : WdAt n 8 w wr) : Sh.Rd (w.heap.size ≤ ·) wr (some ⟨w.heap.size, 0, none⟩) 8 (w8 n) ∧ Below w.heap.size w wr := by
  refine ⟨⟨w8_length n, fun _ => ⟨w.heap.size, 0, rfl, (Array.getElem?_eq_some_iff.1 h.1).1, Nat.le_refl _, fun j u hj => ?_⟩⟩, h.2⟩
  rw [Nat.zero_add]
  refine block_cell h.1 j _ ?_
  rw [List.take_of_length_le (by rw [w8_length]; exact Nat.le_refl _)]
  rw [List.getElem?_append_left (by have := (List.getElem?_eq_some_iff.1 hj).1; simpa [Sh.u8s] using this)]
  simp [Sh.u8s, hj]
theorem make8 (w : World) : (Instr.makeSlice 38 (.int .i64 8) (.int .i64 8)).run Tryd.prog w = .ok (.slice (some ⟨w.heap.size, 0, none⟩) 8 8) (w.alloc (.cells #[.int .u8 0, .int .u8 0, .int .u8 0, .int .u8 0, .int .u8 0, .int .u8 0, .int .u8 0, .int .u8 0] 5)) :=
  by
  have h := run_make_row' (P := Tryd.prog) 38 5 (.int .u8 0) 1 Tryd.underlying38 Sh.Tryd.info5 rfl .i64 .i64 8 (by omega) (by omega) w
  rw [show madeCells #[Value.int .u8 0] 8 = #[.int .u8 0, .int .u8 0, .int .u8 0, .int .u8 0, .int .u8 0, .int .u8 0, .int .u8 0, .int .u8 0] from Array.toList_inj.1 (by rw [toList_madeCells_one]; rfl)] at h
  exact h
/-- What word answers. -/
def WordP (n : Nat) (w : World) (E : Ending) (w' : World) : Prop := ∃ A c, E = .returned (.slice A 8 c) ∧ Sh.Rd (w.heap.size ≤ ·) w' A 8 (w8 n) ∧ Sh.Sl A 8 c ∧ Below w.heap.size w w'
set_option maxHeartbeats 1000000 in
theorem word_any (n : Nat) (w : World) : Calls Tryd.prog 30 #[.int .u64 (n : Int)] w fun E w' => WordP n w E w' := by
  have H0 := Lib.hid (WdAt.start n w)
  have hmk := make8 w
  go_enter Tryd.func30, Tryd.ntmps30
  go_wp2_with fail
  go_loopw [8] (fun v8 wr => ∃ j : Nat, j ≤ 8 ∧ v8 = .int .i64 (j : Int) ∧ Hid (WdAt n j w wr)) (fun v8 _ => 8 - (intOf v8).toNat)
  case atStart => exact ⟨0, by omega, rfl, H0⟩
  case round =>
    clear H0
    obtain ⟨j, hj, rfl, D⟩ := hrel
    by_cases hjj : j < 8
    · have D' := Lib.hid (D.out.next hjj)
      have c0 : wr.cell? ⟨w.heap.size, j, none⟩ = some (.int .u8 0) := D.out.cell hjj
      have f0 : wr.frozen? ⟨w.heap.size, j, none⟩ = false := free_block D.out.1 j
      have hjj' : (j : Int) < 8 := by omega
      clear D
      go_wp2_with fail
      go_roundw
      case measure => simp [intOf] <;> omega
      case rel => exact ⟨j + 1, by omega, by go_num, D'⟩
    · obtain rfl : j = 8 := by omega
      have HZ := Lib.hid D.out.fin
      clear D
      go_wp2_with fail
      go_ret
      exact ⟨_, _, rfl, HZ.out.1, ⟨by simp, by omega, by omega⟩, HZ.out.2⟩
open Go.RowKit
set_option maxRecDepth 100000

set_option maxHeartbeats 1000000 in
theorem tellN_any {K : Nat} {first caps : Array Value} {Sk : List UInt8 → Thing → Prop} (hS : Sink K first caps Sk) {w W : World} {o : Thing} {os : List Thing} {b3 : Nat} {l : List UInt8} (H : Fr w W (o :: blkT b3 #[.func (.func K) first caps] 58 :: os)) (hk : Sk l o) (n : Nat) (hl : l.length + 8 < 70000000000000) :
    Calls Tryd.prog 29 #[.int .u64 (n : Int), .pointer (some ⟨b3, 0, none⟩)] W fun E W' => E = .returned (.tuple #[]) ∧ ∃ o', Sk (l ++ w8 n) o' ∧ Fr w W' (o' :: blkT b3 #[.func (.func K) first caps] 58 :: os) := by
  have H0 := Lib.hid H
  have hE := hS.ent
  have HPut : Hid (∀ A c W', Fr w W' (o :: blkT b3 #[.func (.func K) first caps] 58 :: os) → Sh.Rd (fun k => ¬ o.F k) W' A 8 (w8 n) → Sh.Sl A 8 c → Calls Tryd.prog K (first ++ #[.slice A 8 c] ++ caps) W' fun E W2 => E = .returned (.tuple #[]) ∧ ∃ o', Sk (l ++ w8 n) o' ∧ Fr w W2 (o' :: blkT b3 #[.func (.func K) first caps] 58 :: os)) := Lib.hid fun A c W' h hr hs => hS.put w W' _ o l (w8 n) A c h hk (by rw [w8_length]; exact hr) (by rw [w8_length]; exact hs) (by rw [w8_length]; exact hl)
  clear H hk hl hS
  go_enter Tryd.func29, Tryd.ntmps29
  refine wp_region_any (by kernel_rfl) ?_
  change wpAny _ _ _ _ _ _ _ (World.drewN _ 1)
  refine held_gen (G := fun W => wpAny _ _ _ _ _ _ _ W) (fun W => Fr w W (o :: blkT b3 #[.func (.func K) first caps] 58 :: os)) (H0.out.drewN 1) (fun w1 hw1 => ?_)
  have H1 := Lib.hid hw1
  clear hw1 H0
  refine wpAny_of_held (S := fun W => W.heap[b3]? = some (.cells #[.func (.func K) first caps] 58 (0, 0))) _ _ _ _ ?_
  refine wpAnyH_take (i := 0) (oi := { dst := some 3, op := Op.load 58 (Operand.tmp 1), type := 58, pos := "state.go:104", after := #[], guard := none }) (v := .func (.func K) first caps) rfl (by kernel_rfl) (by kernel_rfl) (by kernel_rfl) (fun _ _ _ h => h) (Or.inl ⟨by kernel_rfl, fun W hSW => by have hc := cell_of_one hSW; go_simp⟩) (H1.out.hd2) ?_
  try simp only [Act.put, List.setIfInBounds_toArray, List.set_cons_zero, List.set_cons_succ]
  refine wpAnyH_take (i := 1) (oi := { dst := some 4, op := Op.move (Operand.tmp 0), type := 32, pos := "state.go:104", after := #[], guard := none }) (v := .int .u64 (n : Int)) rfl (by kernel_rfl) (by kernel_rfl) (by kernel_rfl) (fun _ _ _ h => h) (Or.inl ⟨by kernel_rfl, fun W hSW => by go_simp⟩) (H1.out.hd2) ?_
  try simp only [Act.put, List.setIfInBounds_toArray, List.set_cons_zero, List.set_cons_succ]
  refine wpAnyH_ready (rs := [2]) (by kernel_rfl) (by simp) ?_
  refine AllReadyH.cons (o := { dst := some 5, op := Op.call { callee := Callee.value (Operand.func 30), args := #[Operand.tmp 4], argTypes := #[32] }, type := 38, pos := "state.go:104", after := #[{ on := 1, ground := Ground.data }], guard := none }) rfl (fun K' hK' => ?_) AllReadyH.nil
  go_simp
  go_at_call 30
  refine (word_any n _).mono ?_
  rintro E w2 ⟨A, c, rfl, hrd, hsl, hb⟩
  have H2 := Lib.hid (H1.out.below hb)
  have HR : Hid (Sh.Rd (fun k => ¬ o.F k) w2 A 8 (w8 n)) := Lib.hid (hrd.mono fun k _ hk ho => absurd (((H1.out.all o (List.mem_cons_self ..)).2.1.lt _ H1.out.hd k ho)) (by omega))
  clear hrd hb H1
  refine hK'.out _ _ (H2.out.hd2) (fun _ => ?_)
  clear hK' K'
  try simp only [Act.put, List.setIfInBounds_toArray, List.set_cons_zero, List.set_cons_succ]
  refine wpAnyH_ready (rs := [3]) (by kernel_rfl) (by simp) ?_
  refine AllReadyH.cons (o := { dst := some 6, op := Op.call { callee := Callee.value (Operand.tmp 3), args := #[Operand.tmp 5], argTypes := #[38] }, type := 0, pos := "state.go:104", after := #[{ on := 0, ground := Ground.data }, { on := 2, ground := Ground.data }, { on := 2, ground := Ground.chain }], guard := none }) rfl (fun K' hK' => ?_) AllReadyH.nil
  go_simp
  refine (HPut.out A c w2 H2.out HR.out hsl).mono ?_
  rintro E w3 ⟨rfl, o', hsk, h3⟩
  have H3 := Lib.hid h3
  have HSK := Lib.hid hsk
  clear h3 hsk
  refine hK'.out _ _ (H3.out.hd2) (fun _ => ?_)
  clear hK' K'
  refine wpAnyH_done (by kernel_rfl) ?_ _
  go_end0
  exact ⟨rfl, o', HSK.out, H3.out⟩

open Go.RowKit
set_option maxRecDepth 100000

/-- A text's bytes: how many, and these. -/
def tB (s : ByteArray) : List UInt8 := w8 s.size ++ s.data.toList
theorem tB_length (s : ByteArray) : (tB s).length = 8 + s.size := by simp [tB, w8_length]
theorem conv_fr {w W : World} {os : List Thing} (H : Fr w W os) (s : ByteArray) : (convert 9 38 (.string s)).run Tryd.prog W = .ok (.slice (some ⟨W.heap.size, 0, none⟩) s.size (grownCap W s.size 0 5)) (Lib.bytesWorld W 5 s) ∧ Fr w (Lib.bytesWorld W 5 s) os ∧
    (s.size ≤ 9223372036854775807 → Sh.Rd (W.heap.size ≤ ·) (Lib.bytesWorld W 5 s) (some ⟨W.heap.size, 0, none⟩) s.size s.data.toList ∧ Sh.Sl (some ⟨W.heap.size, 0, none⟩) s.size (grownCap W s.size 0 5)) := by
  have hb : Below W.heap.size W (Lib.bytesWorld W 5 s) := ⟨rfl, rfl, rfl, by rw [Lib.bytesWorld_size]; omega, fun k hk => Lib.bytesWorld_at_old W 5 s k hk⟩
  refine ⟨Lib.run_convert_string_bytes W 9 38 5 s Tryd.underlying9 Tryd.underlying38 Tryd.underlying5, H.below hb, fun hs => ⟨⟨by simp, fun _ => ⟨W.heap.size, 0, rfl, by rw [Lib.bytesWorld_size]; omega, Nat.le_refl _, fun j u hj => ?_⟩⟩, by simp, grownCap_ge W s.size 0 5, grownCap_le_maxLen W s.size 0 5 hs⟩⟩
  rw [Nat.zero_add, Lib.bytesWorld_cell W 5 s j (by have := (List.getElem?_eq_some_iff.1 hj).1; simpa using this), List.getD_eq_getElem?_getD, hj]
  rfl
set_option maxHeartbeats 1000000 in
theorem tellT_any {K : Nat} {first caps : Array Value} {Sk : List UInt8 → Thing → Prop} (hS : Sink K first caps Sk) {w W : World} {o : Thing} {os : List Thing} {b3 b4 : Nat} {l : List UInt8}
    (H : Fr w W (o :: blkT b3 #[.func (.func K) first caps] 58 :: blkT b4 #[.func (.func 29) #[] #[.pointer (some ⟨b3, 0, none⟩)]] 78 :: os)) (hk : Sk l o) (s : ByteArray) (hl : l.length + s.size + 8 < 70000000000000) :
    Calls Tryd.prog 31 #[.string s, .pointer (some ⟨b4, 0, none⟩), .pointer (some ⟨b3, 0, none⟩)] W fun E W' => E = .returned (.tuple #[]) ∧ ∃ o', Sk (l ++ tB s) o' ∧ Fr w W' (o' :: blkT b3 #[.func (.func K) first caps] 58 :: blkT b4 #[.func (.func 29) #[] #[.pointer (some ⟨b3, 0, none⟩)]] 78 :: os) := by
  have HN := Lib.hid (tellN_any hS H hk s.size (by omega))
  have HPut : Hid (∀ o1, Sk (l ++ w8 s.size) o1 → ∀ A c W', Fr w W' (o1 :: blkT b3 #[.func (.func K) first caps] 58 :: blkT b4 #[.func (.func 29) #[] #[.pointer (some ⟨b3, 0, none⟩)]] 78 :: os) → Sh.Rd (fun k => ¬ o1.F k) W' A s.size s.data.toList → Sh.Sl A s.size c → Calls Tryd.prog K (first ++ #[.slice A s.size c] ++ caps) W' fun E W2 => E = .returned (.tuple #[]) ∧ ∃ o', Sk (l ++ tB s) o' ∧ Fr w W2 (o' :: blkT b3 #[.func (.func K) first caps] 58 :: blkT b4 #[.func (.func 29) #[] #[.pointer (some ⟨b3, 0, none⟩)]] 78 :: os)) := Lib.hid fun o1 hk1 A c W' h hr hs => by
    have := hS.put w W' _ o1 (l ++ w8 s.size) s.data.toList A c h hk1 (by rw [Array.length_toList]; exact hr) (by rw [Array.length_toList]; exact hs) (by simp [w8_length]; omega)
    rw [List.append_assoc] at this
    rw [Array.length_toList] at this
    exact this
  have hE := hS.ent
  have H0 := Lib.hid H
  have c4 : W.cell? ⟨b4, 0, none⟩ = some (.func (.func 29) #[] #[.pointer (some ⟨b3, 0, none⟩)]) := cell_of_one H.hd3
  have hw : IntKind.u64.wrap (s.size : Int) = (s.size : Int) := by rw [IntKind.wrap_u64]; omega
  have HS : Hid (s.size ≤ 9223372036854775807) := Lib.hid (by omega)
  clear H hk hl hS
  go_enter Tryd.func31, Tryd.ntmps31
  go_wp2_with (go_at_call 29; refine HN.out.mono ?_)
  rintro E w1 ⟨rfl, o1, hk1, h1⟩
  have H1 := Lib.hid h1
  have c3 : w1.cell? ⟨b3, 0, none⟩ = some (.func (.func K) first caps) := cell_of_one h1.hd2
  obtain ⟨hcv, h2, h3⟩ := conv_fr h1 s
  have H2 := Lib.hid h2
  obtain ⟨hr, hs⟩ := h3 HS.out
  have HR : Hid (Sh.Rd (fun k => ¬ o1.F k) (Lib.bytesWorld w1 5 s) (some ⟨w1.heap.size, 0, none⟩) s.size s.data.toList) := Lib.hid (hr.mono fun k _ hk ho => absurd ((H1.out.all o1 (List.mem_cons_self ..)).2.1.lt _ H1.out.hd k ho) (by omega))
  have HP := Lib.hid (HPut.out o1 hk1 _ _ _ h2 HR.out hs)
  clear h1 h2 h3 hr hs HN HPut hk1 HR H0 c4
  go_wp2_with fail
  refine HP.out.mono ?_
  rintro E w2 ⟨rfl, o2, hk2, h2⟩
  go_wp2_with fail
  go_end0
  exact ⟨rfl, o2, hk2, h2⟩
open Go.RowKit
set_option maxRecDepth 100000

/-- A state: how many requests, the table, the ledger's items. -/
structure MSt where
  n : Nat
  T : List Lst
  xs : List It
def lstB (p : Lst) : List UInt8 := w8 p.1 ++ (w8 (IntKind.u64.wrap p.2.1).toNat ++ tB p.2.2)
def itB (p : It) : List UInt8 := tB p.1 ++ tB p.2
/-- Its bytes. -/
def stB (S : MSt) : List UInt8 := w8 S.n ++ (S.T.flatMap lstB ++ (w8 S.xs.length ++ S.xs.flatMap itB))
/-- It lies here. -/
structure StAt (W : World) (s t g : Nat) (r : Option Nat) (c : Nat) (S : MSt) : Prop where
  top : W.heap[s]? = some (.cells #[.int .u64 (S.n : Int), .pointer (some ⟨t, 0, none⟩), .pointer (some ⟨g, 0, none⟩)] 55 (0, 0))
  tbl : Tbl W t S.T
  sys : Sys W g r c S.xs
  low : 4 ≤ t
  num : S.n < 18446744073709551616
theorem StAt.lt {W : World} {s t g : Nat} {r : Option Nat} {c : Nat} {S : MSt} (h : StAt W s t g r c S) : s < W.heap.size := (Array.getElem?_eq_some_iff.1 h.top).1
theorem StAt.kept {W W' : World} {s t g : Nat} {r : Option Nat} {c : Nat} {S : MSt} (h : StAt W s t g r c S) (h5 : ∀ k, k < 4 → W'.heap[k]? = W.heap[k]?) (hk : ∀ k, OnT g r t k ∨ k = s → W'.heap[k]? = W.heap[k]?) : StAt W' s t g r c S :=
  ⟨(hk s (.inr rfl)).trans h.top, h.tbl.kept (hk t (.inl (.inr rfl))), h.sys.off h5 fun k ho => hk k (.inl (.inl ho)), h.low, h.num⟩
theorem StAt.on_lt {W : World} {s t g : Nat} {r : Option Nat} {c : Nat} {S : MSt} (h : StAt W s t g r c S) : ∀ k, OnT g r t k ∨ k = s → k < W.heap.size := by
  rintro k ((hk | rfl) | rfl)
  · exact h.sys.led.on_lt k hk
  · exact h.tbl.lt
  · exact h.lt
theorem StAt.below {W W' : World} {s t g : Nat} {r : Option Nat} {c : Nat} {S : MSt} (h : StAt W s t g r c S) (hb : Below W.heap.size W W') : StAt W' s t g r c S :=
  h.kept (fun k hk => hb.block k (by have := h.sys.vars.low; omega)) fun k hk => hb.block k (h.on_lt k hk)
/-- While a state's bytes are told. -/
structure Tell (Sk : List UInt8 → Thing → Prop) (w W : World) (os : List Thing) (b3 b4 : Nat) (V : Value) (l : List UInt8) : Prop where
  out : ∃ o, Sk l o ∧ Fr w W (o :: blkT b3 #[V] 58 :: blkT b4 #[.func (.func 29) #[] #[.pointer (some ⟨b3, 0, none⟩)]] 78 :: os)
section
variable {Sk : List UInt8 → Thing → Prop} {w W W' : World} {os : List Thing} {b3 b4 : Nat} {V : Value} {l : List UInt8}
theorem Tell.below (H : Tell Sk w W os b3 b4 V l) (hb : Below W.heap.size W W') : Tell Sk w W' os b3 b4 V l := let ⟨o, hk, h⟩ := H.out; ⟨o, hk, h.below hb⟩
theorem Tell.drewN (H : Tell Sk w W os b3 b4 V l) (k : Nat) : Tell Sk w (W.drewN k) os b3 b4 V l := H.below (below_drewN (Below.refl _ _) k)
theorem Tell.bel (H : Tell Sk w W os b3 b4 V l) : Below w.heap.size w W := let ⟨_, _, h⟩ := H.out; h.bel
theorem Tell.vars (H : Tell Sk w W os b3 b4 V l) : Vars w := let ⟨_, _, h⟩ := H.out; h.vars
theorem Tell.c4 (H : Tell Sk w W os b3 b4 V l) : W.heap[b4]? = some (.cells #[.func (.func 29) #[] #[.pointer (some ⟨b3, 0, none⟩)]] 78 (0, 0)) := let ⟨_, _, h⟩ := H.out; h.hd3
theorem Tell.n {K : Nat} {first caps : Array Value} (hS : Sink K first caps Sk) (H : Tell Sk w W os b3 b4 (.func (.func K) first caps) l) (n : Nat) (hl : l.length + 8 < 70000000000000) :
    Calls Tryd.prog 29 #[.int .u64 (n : Int), .pointer (some ⟨b3, 0, none⟩)] W fun E W' => E = .returned (.tuple #[]) ∧ Tell Sk w W' os b3 b4 (.func (.func K) first caps) (l ++ w8 n) := by
  obtain ⟨o, hk, h⟩ := H.out
  exact (tellN_any hS h hk n hl).mono fun E W' ⟨e, o', k', h'⟩ => ⟨e, ⟨o', k', h'⟩⟩
theorem Tell.t {K : Nat} {first caps : Array Value} (hS : Sink K first caps Sk) (H : Tell Sk w W os b3 b4 (.func (.func K) first caps) l) (s : ByteArray) (hl : l.length + s.size + 8 < 70000000000000) :
    Calls Tryd.prog 31 #[.string s, .pointer (some ⟨b4, 0, none⟩), .pointer (some ⟨b3, 0, none⟩)] W fun E W' => E = .returned (.tuple #[]) ∧ Tell Sk w W' os b3 b4 (.func (.func K) first caps) (l ++ tB s) := by
  obtain ⟨o, hk, h⟩ := H.out
  exact (tellT_any hS h hk s hl).mono fun E W' ⟨e, o', k', h'⟩ => ⟨e, ⟨o', k', h'⟩⟩
/-- What Tell leaves once all is told: the blocks of the closures are nobody's. -/
theorem Tell.fin (H : Tell Sk w W os b3 b4 V l) : ∃ o, Sk l o ∧ Fr w W (o :: os) := by
  obtain ⟨o, hk, h⟩ := H.out
  exact ⟨o, hk, h.sub (by first | (apply List.Sublist.cons_cons; exact (List.sublist_cons_self ..).trans (List.sublist_cons_self ..)) | skip)⟩
end
theorem tell_start {Sk : List UInt8 → Thing → Prop} {w W : World} {o : Thing} {os : List Thing} {V : Value} {l : List UInt8} (H : Fr w W (o :: os)) (hk : Sk l o) :
    Tell Sk w ((W.alloc (.cells #[V] 58)).alloc (.cells #[.func (.func 29) #[] #[.pointer (some ⟨W.heap.size, 0, none⟩)]] 78)) os W.heap.size (W.heap.size + 1) V l := by
  have h1 := H.box #[V] 58
  have h2 := h1.box' (k := W.heap.size + 1) (by simp) #[.func (.func 29) #[] #[.pointer (some ⟨W.heap.size, 0, none⟩)]] 78
  exact ⟨o, hk, h2.perm ((List.Perm.swap ..).trans (((List.Perm.swap ..).cons _).trans ((List.Perm.swap ..))))⟩
open Go.RowKit
set_option maxRecDepth 100000

theorem Tell.add {Sk : List UInt8 → Thing → Prop} {w W W' : World} {os : List Thing} {b3 b4 : Nat} {V : Value} {l : List UInt8} {o2 : Thing} (H : Tell Sk w W os b3 b4 V l) (hb : Below W.heap.size W W') (hp : o2.P W') (ok : o2.Ok) (hf : ∀ k, o2.F k → W.heap.size ≤ k) : Tell Sk w W' (o2 :: os) b3 b4 V l := by
  obtain ⟨o, hk, h⟩ := H.out
  exact ⟨o, hk, (h.add hb hp ok hf).perm ((List.Perm.swap ..).trans (((List.Perm.swap ..).cons _).trans (((List.Perm.swap ..).cons _).cons _)))⟩
theorem Tell.box {Sk : List UInt8 → Thing → Prop} {w W : World} {os : List Thing} {b3 b4 : Nat} {V : Value} {l : List UInt8} (H : Tell Sk w W os b3 b4 V l) (C : Array Value) (ty : TypeId) : Tell Sk w (W.alloc (.cells C ty)) (blkT W.heap.size C ty :: os) b3 b4 V l :=
  H.add ((Below.refl _ _).alloc (Nat.le_refl _) _) (heap_alloc_new W _) (blkT_ok _ _ _) fun k hk => by cases hk; exact Nat.le_refl _
theorem Tell.pop {Sk : List UInt8 → Thing → Prop} {w W : World} {os : List Thing} {b3 b4 : Nat} {V : Value} {l : List UInt8} {o2 : Thing} (H : Tell Sk w W (o2 :: os) b3 b4 V l) : Tell Sk w W os b3 b4 V l := by
  obtain ⟨o, hk, h⟩ := H.out
  exact ⟨o, hk, h.sub ((((List.sublist_cons_self ..).cons_cons _).cons_cons _).cons_cons _)⟩
theorem Tell.get {Sk : List UInt8 → Thing → Prop} {w W : World} {os : List Thing} {b3 b4 : Nat} {V : Value} {l : List UInt8} (H : Tell Sk w W os b3 b4 V l) : ∀ o ∈ os, o.P W := by
  obtain ⟨o, hk, h⟩ := H.out
  exact fun x hx => (h.all x (List.mem_cons_of_mem _ (List.mem_cons_of_mem _ (List.mem_cons_of_mem _ hx)))).1
/-- A row of what clients were answered. -/
def lssT (b : Nat) (T : List Lst) : Thing := ⟨fun W => b < W.heap.size ∧ Lss W (some ⟨b, 0, none⟩) T, fun k => k = b⟩
theorem cell_kept {W W' : World} {b : Nat} (h : W'.heap[b]? = W.heap[b]?) (o : Nat) : W'.cell? ⟨b, o, none⟩ = W.cell? ⟨b, o, none⟩ := by
  simp [World.cell?, h]
theorem lssT_ok (b : Nat) (T : List Lst) : (lssT b T).Ok := by
  refine ⟨fun W W' h hk _ => ?_, fun W h k hk => by cases hk; exact h.1⟩
  obtain ⟨h1, h2⟩ := h
  have hk := hk b rfl
  refine ⟨?_, fun hn => ?_⟩
  · have := Array.getElem?_eq_getElem h1
    rw [← hk] at this
    exact (Array.getElem?_eq_some_iff.1 this).1
  · obtain ⟨b', o, e, hl, hc⟩ := h2 hn
    injection e with e
    injection e with e1 e2
    subst e1 e2
    refine ⟨_, _, rfl, ?_, fun j p hp k v hv => (cell_kept hk _).trans (hc j p hp k v hv)⟩
    have := Array.getElem?_eq_getElem h1
    rw [← hk] at this
    exact (Array.getElem?_eq_some_iff.1 this).1
/-- A row of items, or none. -/
def rwT (r : Option Nat) (c : Nat) (xs : List It) : Thing := ⟨fun W => Rw W r c xs, fun k => r = some k⟩
theorem rwT_ok (r : Option Nat) (c : Nat) (xs : List It) : (rwT r c xs).Ok := ⟨fun _ _ h hk _ => h.kept fun b e => hk b e, fun _ h k hk => by cases hk; exact h.lt⟩
theorem flat_take {A : Type} (f : A → List UInt8) {T : List A} {j : Nat} {p : A} (hp : T[j]? = some p) : (T.take (j + 1)).flatMap f = (T.take j).flatMap f ++ f p := by
  rw [List.take_add_one, hp]
  simp
theorem flat_le {A : Type} (f : A → List UInt8) (T : List A) (j : Nat) : ((T.take j).flatMap f).length ≤ (T.flatMap f).length := by
  conv => rhs; rw [← List.take_append_drop j T, List.flatMap_append, List.length_append]
  omega

theorem StAt.cell {W : World} {s t g : Nat} {r : Option Nat} {c : Nat} {S : MSt} (h : StAt W s t g r c S) : W.cell? ⟨s, 0, none⟩ = some (.int .u64 (S.n : Int)) ∧ W.cell? ⟨s, 1, none⟩ = some (.pointer (some ⟨t, 0, none⟩)) ∧ W.cell? ⟨s, 2, none⟩ = some (.pointer (some ⟨g, 0, none⟩)) :=
  ⟨block_cell (C := [.int .u64 (S.n : Int), .pointer (some ⟨t, 0, none⟩), .pointer (some ⟨g, 0, none⟩)]) h.top 0 _ rfl, block_cell (C := [.int .u64 (S.n : Int), .pointer (some ⟨t, 0, none⟩), .pointer (some ⟨g, 0, none⟩)]) h.top 1 _ rfl, block_cell (C := [.int .u64 (S.n : Int), .pointer (some ⟨t, 0, none⟩), .pointer (some ⟨g, 0, none⟩)]) h.top 2 _ rfl⟩
set_option maxHeartbeats 4000000 in
theorem write_any {K : Nat} {first caps : Array Value} {Sk : List UInt8 → Thing → Prop} (hS : Sink K first caps Sk) {w W : World} {o : Thing} {os : List Thing} {l : List UInt8} {s t g : Nat} {r : Option Nat} {c : Nat} {S : MSt} (hA : StAt w s t g r c S) (H : Fr w W (o :: os)) (hk : Sk l o) (hl : l.length + (stB S).length < 60000000000000) :
    Calls Tryd.prog 17 #[.pointer (some ⟨s, 0, none⟩), .func (.func K) first caps] W fun E W' => E = .returned (.tuple #[]) ∧ ∃ o', Sk (l ++ stB S) o' ∧ Fr w W' (o' :: os) := by
  have H0 := Lib.hid (tell_start (V := .func (.func K) first caps) H hk)
  have HA := Lib.hid hA
  have hE := hS.ent
  have HL : Hid (l.length + 8 + (S.T.flatMap lstB).length + 8 + (S.xs.flatMap itB).length < 60000000000000) := Lib.hid (by simp only [stB, List.length_append, w8_length] at hl; omega)
  have HT8 := Lib.hid hA.tbl.len
  clear H hk hA hl
  go_enter Tryd.func17, Tryd.ntmps17
  go_wp2_with fail
  refine wp_region_any (by kernel_rfl) ?_
  change wpAny _ _ _ _ _ _ _ (World.drewN _ 1)
  refine held_gen (G := fun W' => wpAny _ _ _ _ _ _ _ W') (fun W' => Tell Sk w W' os W.heap.size (W.heap.size + 1) (.func (.func K) first caps) (l)) (H0.out.drewN 1) (fun w1 hw1 => ?_)
  have H1 := Lib.hid hw1
  clear hw1 H0
  generalize W.heap.size + 1 = b4 at H1 ⊢
  generalize W.heap.size = b3 at H1 ⊢
  refine wpAny_of_held (S := fun W => W.heap[b4]? = some (.cells #[.func (.func 29) #[] #[.pointer (some ⟨b3, 0, none⟩)]] 78 (0, 0)) ∧ W.cell? ⟨s, 0, none⟩ = some (.int .u64 (S.n : Int))) _ _ _ _ ?_
  refine wpAnyH_take (i := 0) (oi := { dst := some 13, op := Op.load 78 (Operand.tmp 4), type := 78, pos := "state.go:109", after := #[], guard := none }) (v := .func (.func 29) #[] #[.pointer (some ⟨b3, 0, none⟩)]) rfl (by kernel_rfl) (by kernel_rfl) (by kernel_rfl) (fun _ _ _ h => h) (Or.inl ⟨by kernel_rfl, fun W hSW => by have hc := cell_of_one hSW.1; go_simp⟩) (⟨H1.out.c4, (HA.out.below H1.out.bel).cell.1⟩) ?_
  try simp only [Act.put, List.setIfInBounds_toArray, List.set_cons_zero, List.set_cons_succ]
  refine wpAnyH_take (i := 1) (oi := { dst := some 14, op := Op.move (Operand.tmp 0), type := 25, pos := "state.go:109", after := #[], guard := none }) (v := .pointer (some ⟨s, 0, none⟩)) rfl (by kernel_rfl) (by kernel_rfl) (by kernel_rfl) (fun _ _ _ h => h) (Or.inl ⟨by kernel_rfl, fun W hSW => by go_simp⟩) (⟨H1.out.c4, (HA.out.below H1.out.bel).cell.1⟩) ?_
  try simp only [Act.put, List.setIfInBounds_toArray, List.set_cons_zero, List.set_cons_succ]
  refine wpAnyH_take (i := 2) (oi := { dst := some 15, op := Op.nilCheck (Operand.tmp 14), type := 0, pos := "state.go:109", after := #[{ on := 1, ground := Ground.data }], guard := none }) (v := .pointer (some ⟨s, 0, none⟩)) rfl (by kernel_rfl) (by kernel_rfl) (by kernel_rfl) (fun _ _ _ h => h) (Or.inl ⟨by kernel_rfl, fun W hSW => by go_simp⟩) (⟨H1.out.c4, (HA.out.below H1.out.bel).cell.1⟩) ?_
  try simp only [Act.put, List.setIfInBounds_toArray, List.set_cons_zero, List.set_cons_succ]
  refine wpAnyH_take (i := 3) (oi := { dst := some 16, op := Op.fieldAddr 55 (Operand.tmp 15) 0, type := 0, pos := "state.go:109", after := #[{ on := 2, ground := Ground.data }], guard := none }) (v := .pointer (some ⟨s, 0, none⟩)) rfl (by kernel_rfl) (by kernel_rfl) (by kernel_rfl) (fun _ _ _ h => h) (Or.inl ⟨by kernel_rfl, fun W hSW => by go_simp⟩) (⟨H1.out.c4, (HA.out.below H1.out.bel).cell.1⟩) ?_
  try simp only [Act.put, List.setIfInBounds_toArray, List.set_cons_zero, List.set_cons_succ]
  refine wpAnyH_take (i := 4) (oi := { dst := some 17, op := Op.load 32 (Operand.tmp 16), type := 32, pos := "state.go:109", after := #[{ on := 3, ground := Ground.data }], guard := none }) (v := .int .u64 (S.n : Int)) rfl (by kernel_rfl) (by kernel_rfl) (by kernel_rfl) (fun _ _ _ h => h) (Or.inl ⟨by kernel_rfl, fun W hSW => by have hc := hSW.2; go_simp⟩) (⟨H1.out.c4, (HA.out.below H1.out.bel).cell.1⟩) ?_
  try simp only [Act.put, List.setIfInBounds_toArray, List.set_cons_zero, List.set_cons_succ]
  refine wpAnyH_ready (rs := [5]) (by kernel_rfl) (by simp) ?_
  refine AllReadyH.cons (o := { dst := some 18, op := Op.call { callee := Callee.value (Operand.tmp 13), args := #[Operand.tmp 17], argTypes := #[32] }, type := 0, pos := "state.go:109", after := #[{ on := 0, ground := Ground.data }, { on := 4, ground := Ground.data }], guard := none }) rfl (fun K' hK' => ?_) AllReadyH.nil
  go_simp
  go_at_call 29
  refine (H1.out.n hS S.n (by have := HL.out; omega)).mono ?_
  rintro E w2 ⟨rfl, h2⟩
  have H2 := Lib.hid h2
  clear h2 H1
  refine hK'.out _ _ (⟨H2.out.c4, (HA.out.below H2.out.bel).cell.1⟩) (fun _ => ?_)
  clear hK' K'
  try simp only [Act.put, List.setIfInBounds_toArray, List.set_cons_zero, List.set_cons_succ]
  refine wpAnyH_done (by kernel_rfl) ?_ _
  obtain ⟨ct, cg⟩ := (HA.out.below H2.out.bel).cell.2
  have HTL := Lib.hid (tlist_any (HA.out.below H2.out.bel).tbl)
  go_wp2_with (go_at_call 32; refine HTL.out.mono ?_)
  rintro E w3 ⟨b, c3, rfl, hl3, hb3, bb3⟩
  have H3 : Hid (Tell Sk w w3 (lssT b S.T :: os) b3 b4 (.func (.func K) first caps) (l ++ w8 S.n)) := Lib.hid (H2.out.add bb3 ⟨let ⟨_, _, e, h, _⟩ := hl3 (by rw [HT8.out]; omega); by injection e with e; injection e with e _; rw [e]; exact h, hl3⟩ (lssT_ok _ _) fun k hk => by cases hk; exact hb3)
  clear hl3 hb3 bb3 HTL ct cg H2
  rw [HT8.out]
  go_wp2_with fail
  have D0 : Hid (Tell Sk w w3 (lssT b S.T :: os) b3 b4 (.func (.func K) first caps) (l ++ w8 S.n ++ (S.T.take 0).flatMap lstB)) := Lib.hid (by simpa using H3.out)
  clear H3
  go_loopw [25] (fun v wr => ∃ j : Nat, j ≤ 8 ∧ v = .int .i64 (j : Int) ∧ Hid (Tell Sk w wr (lssT b S.T :: os) b3 b4 (.func (.func K) first caps) (l ++ w8 S.n ++ (S.T.take j).flatMap lstB))) (fun v _ => 8 - (intOf v).toNat)
  case atStart => exact ⟨0, by omega, rfl, D0⟩
  case round =>
    clear D0
    obtain ⟨j, hj, rfl, D⟩ := hrel
    by_cases hjj : j < 8
    · obtain ⟨p, hp⟩ : ∃ p, S.T[j]? = some p := ⟨_, List.getElem?_eq_getElem (by rw [HT8.out]; exact hjj)⟩
      have HR : Hid (∀ k v, (lsC p)[k]? = some v → wr.cell? ⟨b, j * 3 + k, none⟩ = some v) := Lib.hid fun k v hv => by
        obtain ⟨b', o', e, _, hc⟩ := (D.out.get _ (List.mem_cons_self ..)).2 (by rw [HT8.out]; omega)
        injection e with e
        injection e with e1 e2
        subst e1 e2
        have := hc j p hp k v hv
        rwa [Nat.zero_add] at this
      have HTK := Lib.hid (flat_take lstB hp)
      have HLT := Lib.hid (flat_le lstB S.T (j + 1))
      have DB := Lib.hid (D.out.box #[.int .u64 (p.1 : Int), .int .i64 p.2.1, .string p.2.2] 48)
      obtain ⟨m, hm⟩ : ∃ m : Nat, IntKind.u64.wrap p.2.1 = (m : Int) := ⟨(IntKind.u64.wrap p.2.1).toNat, by have : 0 ≤ IntKind.u64.wrap p.2.1 := by { rw [IntKind.wrap_u64]; omega }; omega⟩
      have HM : Hid (lstB p = w8 p.1 ++ (w8 m ++ tB p.2.2)) := Lib.hid (by rw [lstB, hm]; rfl)
      have hjj' : (j : Int) < 8 := by omega
      clear D hp
      have c4 := cell_of_one DB.out.c4
      go_wp2_with (first | ((with_reducible refine wpList_load_midG ?_ 48 (.tmp 27) ?_ b (j * 3) ?_ [.int .u64 (p.1 : Int), .int .i64 p.2.1, .string p.2.2] _ ?_ Tryd.underlying48 ?_ ?_ ?_); rotate_left; (· rfl); (· rfl); (· exact fun k v hv => HR.out k v hv); (· rfl); (· exact Tryd.is48); rotate_left; (· rfl)) | (go_at_call 29; refine (DB.out.n hS p.1 (by have h1 := HL.out; have h2 := HLT.out; rw [HTK.out, HM.out] at h2; simp only [List.length_append, w8_length] at h2 ⊢; omega)).mono ?_))
      rintro E w4 ⟨rfl, h4⟩
      have H4 := Lib.hid h4
      have hB4 : w4.heap[wr.heap.size]? = some (.cells ([.int .u64 (p.1 : Int), .int .i64 p.2.1, .string p.2.2] : List Value).toArray 48 (0, 0)) := h4.get _ (List.mem_cons_self ..)
      have k4 := cell_of_one h4.c4
      have e1 := block_cell hB4 1 _ rfl
      clear h4 DB hB4 c4
      go_wp2_with (go_at_call 29; refine (H4.out.n hS m (by have h1 := HL.out; have h2 := HLT.out; rw [HTK.out, HM.out] at h2; simp only [List.length_append, w8_length] at h2 ⊢; omega)).mono ?_)
      rintro E w5 ⟨rfl, h5⟩
      have H5 := Lib.hid h5
      have hB5 : w5.heap[wr.heap.size]? = some (.cells ([.int .u64 (p.1 : Int), .int .i64 p.2.1, .string p.2.2] : List Value).toArray 48 (0, 0)) := h5.get _ (List.mem_cons_self ..)
      have e2 := block_cell hB5 2 _ rfl
      clear h5 H4 hB5 k4 e1
      go_wp2_with (go_at_call 31; refine (H5.out.t hS p.2.2 (by have h1 := HL.out; have h2 := HLT.out; rw [HTK.out, HM.out] at h2; simp only [List.length_append, w8_length, tB_length] at h2 ⊢; omega)).mono ?_)
      rintro E w6 ⟨rfl, h6⟩
      have D6 : Hid (Tell Sk w w6 (lssT b S.T :: os) b3 b4 (.func (.func K) first caps) (l ++ w8 S.n ++ (S.T.take (j + 1)).flatMap lstB)) := Lib.hid (by rw [HTK.out, HM.out]; have := h6.pop; simp only [List.append_assoc] at this ⊢; exact this)
      clear h6 H5 e2
      go_wp2_with fail
      go_roundw
      case measure => simp [intOf] <;> omega
      case rel => exact ⟨j + 1, by omega, by go_num, D6⟩
    · obtain rfl : j = 8 := by omega
      have HF8 : Hid ((S.T.take 8).flatMap lstB = S.T.flatMap lstB) := Lib.hid (by rw [List.take_of_length_le (by rw [HT8.out]; exact Nat.le_refl _)])
      have H7 : Hid (Tell Sk w wr os b3 b4 (.func (.func K) first caps) (l ++ w8 S.n ++ S.T.flatMap lstB)) := Lib.hid (by rw [← HF8.out]; exact D.out.pop)
      clear D HF8
      have hxl : S.xs.length ≤ 64 := HA.out.sys.len
      have HLL := Lib.hid (list_any (HA.out.below H7.out.bel).sys.led (by omega))
      have cg := (HA.out.below H7.out.bel).cell.2.2
      obtain ⟨n, hn⟩ : ∃ n, n = S.xs.length := ⟨_, rfl⟩
      have HN := Lib.hid hn
      rw [← hn] at hxl
      have hwn : IntKind.u64.wrap (n : Int) = (n : Int) := by rw [IntKind.wrap_u64]; omega
      go_wp2_with (go_at_call 25; refine HLL.out.mono ?_)
      rintro E w8' ⟨r1, c1, rfl, hr1, hf1, bb1⟩
      have H8 : Hid (Tell Sk w w8' (rwT r1 c1 S.xs :: os) b3 b4 (.func (.func K) first caps) (l ++ w8 S.n ++ S.T.flatMap lstB)) := Lib.hid (H7.out.add bb1 hr1 (rwT_ok _ _ _) fun k hk => hf1 k hk)
      have k8 := cell_of_one H8.out.c4
      rw [← hn]
      clear hr1 hf1 bb1 HLL cg H7 hn
      go_wp2_with (go_at_call 29; refine (H8.out.n hS n (by have h1 := HL.out; simp only [List.length_append, w8_length]; omega)).mono ?_)
      rintro E w9 ⟨rfl, h9⟩
      have D9 : Hid (Tell Sk w w9 (rwT r1 c1 S.xs :: os) b3 b4 (.func (.func K) first caps) (l ++ w8 S.n ++ S.T.flatMap lstB ++ w8 n ++ (S.xs.take 0).flatMap itB)) := Lib.hid (by simpa using h9)
      clear h9 H8 k8
      go_wp2_with fail
      go_loopw [57] (fun v wr => ∃ j : Nat, j ≤ n ∧ v = .int .i64 (j : Int) ∧ Hid (Tell Sk w wr (rwT r1 c1 S.xs :: os) b3 b4 (.func (.func K) first caps) (l ++ w8 S.n ++ S.T.flatMap lstB ++ w8 n ++ (S.xs.take j).flatMap itB))) (fun v _ => n - (intOf v).toNat)
      case atStart => exact ⟨0, by omega, rfl, D9⟩
      case round =>
        clear D9
        obtain ⟨j, hj, rfl, D⟩ := hrel
        by_cases hjj : j < n
        · obtain ⟨p, hp⟩ : ∃ p, S.xs[j]? = some p := ⟨_, List.getElem?_eq_getElem (by rw [← HN.out]; exact hjj)⟩
          obtain ⟨b, rfl⟩ : ∃ b, r1 = some b := by
            cases r1 with
            | some b => exact ⟨b, rfl⟩
            | none =>
              have h0 : S.xs = [] := (show Rw wr none c1 S.xs from D.out.get _ (List.mem_cons_self ..)).2
              have hn := HN.out
              rw [h0] at hn
              have : n = 0 := hn
              omega
          obtain ⟨b', o', e, _, hc⟩ := (show Rw wr (some b) c1 S.xs from D.out.get _ (List.mem_cons_self ..)).its (by rw [← HN.out]; omega)
          injection e with e
          injection e with e1 e2
          subst e1 e2
          obtain ⟨d1, d2⟩ := hc j p hp
          rw [Nat.zero_add] at d1 d2
          have HRR : Hid (∀ k v, ([.string p.1, .string p.2] : List Value)[k]? = some v → wr.cell? ⟨b, j * 2 + k, none⟩ = some v) := Lib.hid fun k v hv => by
            match k, hv with
            | 0, hv => cases hv; exact d1
            | 1, hv => cases hv; exact d2
          have HTK := Lib.hid (flat_take itB hp)
          have HLT := Lib.hid (flat_le itB S.xs (j + 1))
          have DB := Lib.hid (D.out.box #[.string p.1, .string p.2] 81)
          have HM : Hid (itB p = tB p.1 ++ tB p.2) := Lib.hid rfl
          have hjj' : (j : Int) < (n : Int) := by omega
          clear D hp d1 d2 hc
          have c4 := cell_of_one DB.out.c4
          have hsl : slA (some b) = some ⟨b, 0, none⟩ := rfl
          go_wp2_with (first
            | ((with_reducible refine wpList_load_midG ?_ 81 (.tmp 59) ?_ b (j * 2) ?_ [.string p.1, .string p.2] _ ?_ Tryd.underlying81 ?_ ?_ ?_); rotate_left; (· rfl); (· rfl); (· exact fun k v hv => HRR.out k v hv); (· rfl); (· exact Tryd.is81); rotate_left; (· rfl))
            | (go_at_call 31
               refine (DB.out.t hS p.1 (by have h1 := HL.out; have h2 := HLT.out; rw [HTK.out, HM.out] at h2; simp only [List.length_append, w8_length, tB_length] at h2 ⊢; omega)).mono ?_
               rintro E w4 ⟨rfl, h4⟩
               have H4 := Lib.hid h4
               have hB4 : w4.heap[wr.heap.size]? = some (.cells ([.string p.1, .string p.2] : List Value).toArray 81 (0, 0)) := h4.get _ (List.mem_cons_self ..)
               have e1 := block_cell hB4 1 _ rfl
               clear h4 DB hB4 c4)
            | (go_at_call 31
               refine (H4.out.t hS p.2 (by have h1 := HL.out; have h2 := HLT.out; rw [HTK.out, HM.out] at h2; simp only [List.length_append, w8_length, tB_length] at h2 ⊢; omega)).mono ?_
               rintro E w6 ⟨rfl, h6⟩
               have D6 : Hid (Tell Sk w w6 (rwT (some b) c1 S.xs :: os) b3 b4 (.func (.func K) first caps) (l ++ w8 S.n ++ S.T.flatMap lstB ++ w8 n ++ (S.xs.take (j + 1)).flatMap itB)) := Lib.hid (by rw [HTK.out, HM.out]; have := h6.pop; simp only [List.append_assoc] at this ⊢; exact this)
               clear h6 H4 e1))
          go_roundw
          case measure => simp [intOf] <;> omega
          case rel =>
            iterate 14 apply Exists.intro
            exact ⟨⟨j + 1, by omega, by go_num, D6⟩, rfl⟩
        · obtain rfl : j = n := by omega
          have HF : Hid (l ++ w8 S.n ++ S.T.flatMap lstB ++ w8 j ++ (S.xs.take j).flatMap itB = l ++ stB S) := Lib.hid (by rw [List.take_of_length_le (by rw [← HN.out]; exact Nat.le_refl _), stB, ← HN.out]; simp only [List.append_assoc])
          have HZ : Hid (∃ o', Sk (l ++ stB S) o' ∧ Fr w wr (o' :: os)) := Lib.hid (by rw [← HF.out]; exact D.out.pop.fin)
          clear D
          go_wp2_with fail
          go_end0
          exact ⟨rfl, HZ.out⟩
open Go.RowKit
set_option maxRecDepth 100000

theorem wpList_app_bytes {w : World} {ops : Array Oper} {rest : List Oper} {o : Oper} {a : Act} {Q : Exit → Act → World → Prop} (hgd : o.guard = none) (s x : Operand)
    (ho : o.op = Op.call { callee := Callee.builtin Builtin.append, args := #[s, x], argTypes := #[38, 38] })
    {n c : Nat} {v : Value} {A : Option Addr} {xs bs : List UInt8} (hs : a.eval s = v) (hx : a.eval x = .slice A n c) (hn : n = bs.length)
    (hown : w.ownsRow 0 5 1 v xs.length (Sh.u8s xs)) {Pr : Nat → Prop} (hr : Sh.Rd Pr w A n bs) (hsl : Sh.Sl A n c) (hm : xs.length + bs.length ≤ 140737488355328)
    (h : ∀ A' c' w', Hid (w'.ownsRow 0 5 1 (.slice A' (xs ++ bs).length c') (xs ++ bs).length (Sh.u8s (xs ++ bs)) ∧ w.grownBy w' v.ownBlock ∧ (Value.ownBlock (.slice A' (xs ++ bs).length c') = v.ownBlock ∨ Value.ownBlock (.slice A' (xs ++ bs).length c') = some w.heap.size)) → wpList Tryd.prog ops Q rest (a.put o.dst (.slice A' (xs ++ bs).length c')) w') :
    wpList Tryd.prog ops Q (o :: rest) a w := by
  obtain ⟨i0, hi, hz0, hz1, hz2⟩ := info_parts Sh.Tryd.info5
  subst hn
  rcases A with _ | ad
  · obtain ⟨h0, rfl⟩ := hsl.1 rfl
    have hbs : bs = [] := List.eq_nil_of_length_eq_zero h0
    subst hbs
    obtain ⟨A', c', rfl, hsl'⟩ := Sh.own_shape hown
    refine wpList_append_own_none hgd s x 38 ho 0 5 i0 1 Tryd.underlying38 hi _ xs.length _ hs hown hx ?_
    have := h A' c' w (Lib.hid ⟨by simpa using hown, ⟨rfl, rfl, rfl, Nat.le_refl _, fun _ _ _ => rfl⟩, .inl (by simp)⟩)
    simpa using this
  · have hl : (Sh.u8s bs).length = bs.length * 1 := by rw [Sh.u8s_length]; omega
    refine wpList_append_own_at _ hgd s x 38 ho 0 5 i0 (.int .u8 0) 1 1 Tryd.underlying38 hi hz0 hz1 hz2 rfl (by decide) v xs.length _ hs hown ad bs.length c (Sh.u8s bs) hx hl ?_ (Sh.u8s_one bs) (by unfold maxLen; omega) (by omega) (Nat.zero_le _) ?_
    · intro j u hu
      have hp : 0 < (Sh.u8s bs).length := by have := (List.getElem?_eq_some_iff.1 hu).1; omega
      obtain ⟨ad2, had, hc⟩ := hr.src hp
      injection had with had
      subst had
      exact hc j u hu
    · intro v' w' hv' hg' _ hat
      rw [← List.length_append] at hv'
      obtain ⟨A', c', rfl, hsl'⟩ := Sh.own_shape hv'
      exact h A' c' w' (Lib.hid ⟨by rw [show Sh.u8s (xs ++ bs) = Sh.u8s xs ++ Sh.u8s bs by simp [Sh.u8s]]; exact hv', hg', hat⟩)
def SkB (b : Nat) (l : List UInt8) (o : Thing) : Prop := ∃ A c, o = bytT b (.slice A l.length c) l
theorem own_mod {W : World} {v : Value} {n : Nat} {xs : List Value} {B e : Nat} {s : Nat} (h : W.ownsRow B e s v n xs) : ∀ k, v.ownBlock = some k → ∃ cur, W.heap[k]? = some (.cells cur e (0, 0)) := by
  rcases h.2 with ⟨rfl, _⟩ | ⟨g, cap, cur, rfl, _, b, _⟩
  · intro k hk; cases hk
  · intro k hk; cases hk; exact ⟨_, b⟩
theorem bytT_next {W W' : World} {b : Nat} {v v' : Value} {l d : List UInt8} (h : (bytT b v l).P W) (ho : W'.ownsRow 0 5 1 v' (l ++ d).length (Sh.u8s (l ++ d))) (hg : W.grownBy W' v.ownBlock) (hat : v'.ownBlock = v.ownBlock ∨ v'.ownBlock = some W.heap.size) :
    (bytT b v' (l ++ d)).P (W'.setCell ⟨b, 0, none⟩ v') ∧ Own W (bytT b v l).F (W'.setCell ⟨b, 0, none⟩ v') (bytT b v' (l ++ d)).F ∧ W'.cell? ⟨b, 0, none⟩ = some v ∧ W'.frozen? ⟨b, 0, none⟩ = false := by
  have hb := (Array.getElem?_eq_some_iff.1 h.1).1
  have hne : v.ownBlock ≠ some b := fun e => by
    obtain ⟨cur, hc⟩ := own_mod h.2 b e
    rw [h.1] at hc
    simp at hc
  have hb' : W'.heap[b]? = some (.cells #[v] 38 (0, 0)) := (hg.block b hb (fun e => hne e.symm)).trans h.1
  have hne' : v'.ownBlock ≠ some b := fun e => by
    rcases hat with e' | e'
    · exact hne (e'.symm.trans e)
    · rw [e'] at e; injection e with e; omega
  refine ⟨⟨heap_set (k := 0) (C := [v]) hb' v', ownsRow_kept ho fun k hk => Below.heap_setCell _ ⟨b, 0, none⟩ _ k (fun e => by subst e; exact hne' hk)⟩, ⟨?_, ?_⟩, cell_of_one hb', free_block hb' 0⟩
  · exact Turns.setCell (S := (bytT b v l).F) ((Turns.refl _ W).grown hg fun g e => .inl (.inr e)) (.inl (.inl rfl)) 0 v'
  · rintro k (e | e)
    · exact .inl (.inl e)
    · rcases hat with e' | e'
      · exact .inl (.inr (e'.symm.trans e))
      · rw [e'] at e; injection e with e; exact .inr (by omega)
theorem sink30 (b : Nat) : Sink 18 #[] #[.pointer (some ⟨b, 0, none⟩)] (SkB b) := by
  refine ⟨fun args W => by kernel_rfl, fun w W os o l d A c H hk hr hs hl => ?_⟩
  obtain ⟨A0, c0, rfl⟩ := hk
  have c1 := cell_of_one H.hd.1
  have HO := Lib.hid H.hd.2
  have HR := Lib.hid hr
  have HS := Lib.hid hs
  have HL : Hid (l.length + d.length ≤ 140737488355328) := Lib.hid (by omega)
  have HZ : Hid (∀ A' c' W', W'.ownsRow 0 5 1 (.slice A' (l ++ d).length c') (l ++ d).length (Sh.u8s (l ++ d)) → W.grownBy W' (Value.ownBlock (.slice A0 l.length c0)) → (Value.ownBlock (.slice A' (l ++ d).length c') = Value.ownBlock (.slice A0 l.length c0) ∨ Value.ownBlock (.slice A' (l ++ d).length c') = some W.heap.size) → W'.cell? ⟨b, 0, none⟩ = some (.slice A0 l.length c0) ∧ W'.frozen? ⟨b, 0, none⟩ = false ∧ ∃ o', SkB b (l ++ d) o' ∧ Fr w (W'.setCell ⟨b, 0, none⟩ (.slice A' (l ++ d).length c')) (o' :: os)) := Lib.hid fun A' c' W' ho hg hat => by
    obtain ⟨h1, h2, h3, h4⟩ := bytT_next H.hd ho hg hat
    exact ⟨h3, h4, _, ⟨A', c', rfl⟩, H.turn h2 h1 (bytT_ok _ _ _)⟩
  obtain ⟨n, hn⟩ : ∃ n, n = d.length := ⟨_, rfl⟩
  have HN := Lib.hid hn
  rw [← hn]
  rw [← hn] at HR HS
  clear H hr hs hl hn
  go_enter Tryd.func18, Tryd.ntmps18
  go_wp2_with (at_builtin; refine wpList_app_bytes rfl (.tmp 3) (.tmp 4) rfl rfl rfl HN.out HO.out HR.out HS.out HL.out ?_; intro A' c' w1 h1; obtain ⟨d1, d2, hz⟩ := HZ.out A' c' w1 h1.out.1 h1.out.2.1 h1.out.2.2; have HX := Lib.hid hz; clear hz h1 HZ HO HR HS)
  go_end0
  have hx := HX.out
  rw [List.length_append] at hx
  exact ⟨rfl, hx⟩
/-! ### Bytes, Digest -/
/-- What Bytes answers: a row of its own. -/
def BytesP (l : List UInt8) (w : World) (E : Ending) (w' : World) : Prop := ∃ A c, E = .returned (.slice A l.length c) ∧ w'.ownsRow w.heap.size 5 1 (.slice A l.length c) l.length (Sh.u8s l) ∧ Below w.heap.size w w'
theorem ownsRow_base {W : World} {B : Nat} {e : TypeId} {s n : Nat} {v : Value} {xs : List Value} (h : W.ownsRow 0 e s v n xs) (hb : ∀ k, v.ownBlock = some k → B ≤ k) : W.ownsRow B e s v n xs := by
  obtain ⟨h1, h2⟩ := h
  refine ⟨h1, ?_⟩
  rcases h2 with h2 | ⟨g, cap, cur, rfl, _, b, c⟩
  · exact .inl h2
  · exact .inr ⟨g, cap, cur, rfl, hb g rfl, b, c⟩
set_option maxHeartbeats 1000000 in
theorem bytes_any {w : World} {s t g : Nat} {r : Option Nat} {c : Nat} {S : MSt} (hA : StAt w s t g r c S) (hk : Sh.KIs w) (hl : (stB S).length < 60000000000000) :
    Calls Tryd.prog 8 #[.pointer (some ⟨s, 0, none⟩)] w fun E w' => BytesP (stB S) w E w' := by
  have H0 : Fr w (w.alloc (.cells #[.slice none 0 0] 38)) [bytT w.heap.size (.slice none 0 0) []] :=
    (Fr.start hA.sys.vars hk).add ((Below.refl _ _).alloc (Nat.le_refl _) _) ⟨heap_alloc_new w _, World.ownsRow_nil _ _ _ _⟩ (bytT_ok _ _ _) fun k e => by
      rcases e with rfl | e
      · exact Nat.le_refl _
      · cases e
  have HW := Lib.hid (write_any (l := []) (sink30 w.heap.size) hA H0 ⟨none, 0, rfl⟩ (by simpa using hl))
  clear H0 hl hA hk
  go_enter Tryd.func8, Tryd.ntmps8
  go_wp2_with (go_at_call 17; refine HW.out.mono ?_)
  rintro E w1 ⟨rfl, o1, ⟨A, c1, rfl⟩, h1⟩
  rw [List.nil_append] at h1
  have c0 : w1.cell? ⟨w.heap.size, 0, none⟩ = some (.slice A (stB S).length c1) := cell_of_one h1.hd.1
  have HZ : Hid (w1.ownsRow w.heap.size 5 1 (.slice A (stB S).length c1) (stB S).length (Sh.u8s (stB S)) ∧ Below w.heap.size w w1) := Lib.hid ⟨ownsRow_base h1.hd.2 fun k e => h1.ge k (.inr e), h1.bel⟩
  clear h1 HW
  go_wp2_with fail
  go_ret
  exact ⟨_, _, rfl, HZ.out⟩
end Go.Proofs.YtpageppjngbnpaaDoor
