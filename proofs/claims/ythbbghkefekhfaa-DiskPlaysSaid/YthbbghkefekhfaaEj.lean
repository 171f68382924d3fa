/-
  What is proved: both disks side by side. Conditions as stated.
-/
import Derived.Test.YthbbghkefekhfaaEi
namespace Go.Proofs.Ythbbghkefekhfaa
open Go.RowKit

/-- The program's disk at d is s, the document's at r is s'; L: what else is the call's own. -/
def Duo (w : World) (d T : Nat) (s : Dk) (r T' : Nat) (s' : Dk) (L : List (Nat × Obj)) (wr : World) : Prop :=
  ∃ S S', DiskIs wr S d T s ∧ RefIs wr S' r T' s' ∧ (∀ k, S k → ¬ S' k) ∧ Own w (fun _ => False) wr S ∧ Own w (fun _ => False) wr S' ∧ ∀ p ∈ L, w.heap.size ≤ p.1 ∧ ¬ S p.1 ∧ ¬ S' p.1 ∧ wr.heap[p.1]? = some p.2
section
variable {w wr w' : World} {d T r T' : Nat} {s s' : Dk} {L : List (Nat × Obj)}
theorem Duo.below (h : Duo w d T s r T' s' L wr) : Below w.heap.size w wr := let ⟨_, _, _, _, _, h2, _⟩ := h; h2.1.below (Nat.le_refl _) (fun _ x => x.elim)
theorem Duo.get (h : Duo w d T s r T' s' L wr) {q : Nat} {o : Obj} (hq : (q, o) ∈ L) : wr.heap[q]? = some o := let ⟨_, _, _, _, _, _, _, h3⟩ := h; (h3 _ hq).2.2.2
theorem Duo.movedD {S S' S2 : Nat → Prop} {s2 : Dk} {T2 : Nat} (hr : RefIs wr S' r T' s') (ha : ∀ k, S k → ¬ S' k) (hS : Own w (fun _ => False) wr S) (hS' : Own w (fun _ => False) wr S') (hL : ∀ p ∈ L, w.heap.size ≤ p.1 ∧ ¬ S p.1 ∧ ¬ S' p.1 ∧ wr.heap[p.1]? = some p.2)
    (h4 : DiskIs w' S2 d T2 s2) (h5 : Own wr S w' S2) : Duo w d T2 s2 r T' s' L w' := by
  refine ⟨S2, S', h4, hr.turns h5.1 (fun k hk x => ha k x hk), fun k hk x => (h5.2 k hk).elim (fun y => ha k y x) (fun y => by have := hr.lt k x; omega), hS.trans h5, ⟨(hS.trans h5).1, hS'.2⟩, fun p hp => ?_⟩
  obtain ⟨a, b, b', c⟩ := hL p hp
  have hlt := (Array.getElem?_eq_some_iff.1 c).1
  exact ⟨a, fun x => (h5.2 _ x).elim b (fun y => by omega), b', (h5.1.block _ hlt b).trans c⟩
theorem Duo.movedR {S S' S2 : Nat → Prop} {s2 : Dk} {T2 : Nat} (hd : DiskIs wr S d T s) (ha : ∀ k, S k → ¬ S' k) (hS : Own w (fun _ => False) wr S) (hS' : Own w (fun _ => False) wr S') (hL : ∀ p ∈ L, w.heap.size ≤ p.1 ∧ ¬ S p.1 ∧ ¬ S' p.1 ∧ wr.heap[p.1]? = some p.2)
    (h4 : RefIs w' S2 r T2 s2) (h5 : Own wr S' w' S2) : Duo w d T s r T2 s2 L w' := by
  refine ⟨S, S2, hd.turns h5.1 (fun k hk x => ha k hk x), h4, fun k hk x => (h5.2 k x).elim (fun y => ha k hk y) (fun y => by have := hd.lt k hk; omega), ⟨(hS'.trans h5).1, hS.2⟩, hS'.trans h5, fun p hp => ?_⟩
  obtain ⟨a, b, b', c⟩ := hL p hp
  have hlt := (Array.getElem?_eq_some_iff.1 c).1
  exact ⟨a, b, fun x => (h5.2 _ x).elim b' (fun y => by omega), (h5.1.block _ hlt b').trans c⟩
theorem Duo.next (h : Duo w d T s r T' s' L wr) (hb : Below wr.heap.size wr w') : Duo w d T s r T' s' L w' := by
  obtain ⟨S, S', h1, h2, ha, h3, h4, h5⟩ := h
  exact Duo.movedD h2 ha h3 h4 h5 (h1.turns (Turns.of_below hb) (S' := fun _ => False) (fun _ _ x => x)) (Own.same (Turns.of_below hb))
theorem Duo.alloc (h : Duo w d T s r T' s' L wr) (o : Obj) : Duo w d T s r T' s' ((wr.heap.size, o) :: L) (wr.alloc o) := by
  have hb := h.below
  have h' := h.next ((Below.refl _ wr).alloc (Nat.le_refl _) o)
  obtain ⟨S, S', h1, h2, ha, h3, h4, h5⟩ := h
  obtain ⟨X, X', _, _, _, _, _, k5⟩ := h'
  refine ⟨S, S', h1.alloc o, h2.turns ((Turns.refl (fun _ => False) wr).alloc o) (fun _ _ x => x), ha, h3.trans (Own.same ((Turns.refl S wr).alloc o)), h4.trans (Own.same ((Turns.refl S' wr).alloc o)), fun p hp => ?_⟩
  rcases List.mem_cons.1 hp with rfl | hp
  · exact ⟨hb.size, fun x => by have := h1.lt _ x; simp at this, fun x => by have := h2.lt _ x; simp at this, heap_alloc_new wr o⟩
  · obtain ⟨a, b, b', _⟩ := h5 p hp
    exact ⟨a, b, b', (k5 p hp).2.2.2⟩
theorem Duo.upd {q : Nat} {o o' : Obj} (h : Duo w d T s r T' s' ((q, o) :: L) wr) (hne : ∀ p ∈ L, p.1 ≠ q) (ho : w'.heap[q]? = some o') (hg : wr.grownBy w' (some q)) : Duo w d T s r T' s' ((q, o') :: L) w' := by
  obtain ⟨S, S', h1, h2, ha, h3, h4, h5⟩ := h
  obtain ⟨a, b, b', c⟩ := h5 (q, o) (by simp)
  refine ⟨S, S', h1.kept (fun k hk => hg.block k (h1.lt k hk) (fun e => by injection e with e; exact b (e ▸ hk))) hg.size, h2.kept (fun k hk => hg.block k (h2.lt k hk) (fun e => by injection e with e; exact b' (e ▸ hk))) hg.size, ha,
    ⟨h3.1.grown hg (by rintro g e; cases e; exact .inr a), h3.2⟩, ⟨h3.1.grown hg (by rintro g e; cases e; exact .inr a), h4.2⟩, fun p hp => ?_⟩
  rcases List.mem_cons.1 hp with rfl | hp
  · exact ⟨a, b, b', ho⟩
  · obtain ⟨x, y, y', z⟩ := h5 p (by simp [hp])
    exact ⟨x, y, y', (hg.block _ (Array.getElem?_eq_some_iff.1 z).1 (fun e => hne p hp (by injection e with e))).trans z⟩
theorem Duo.drop {p : Nat × Obj} (h : Duo w d T s r T' s' (p :: L) wr) : Duo w d T s r T' s' L wr := let ⟨S, S', h1, h2, ha, h3, h4, h5⟩ := h; ⟨S, S', h1, h2, ha, h3, h4, fun p hp => h5 p (by simp [hp])⟩
theorem Duo.more (h : Duo w d T s r T' s' L wr) {U U' : Nat} (hT : T ≤ U) (hT' : T' ≤ U') : Duo w d U s r U' s' L wr :=
  let ⟨S, S', h1, ⟨fz, V1, V2, sl, h2⟩, ha, h3, h4, h5⟩ := h
  ⟨S, S', h1.more hT, ⟨fz, V1, V2, sl, h2.more (Nat.le_trans h2.many hT')⟩, ha, h3, h4, h5⟩
/-- What stands at r: whether the power is off, and the row of loose writes. -/
theorem Duo.ref_cells (h : Duo w d T s r T' s' L wr) : wr.cell? ⟨r, 2, none⟩ = some (.bool s'.off) ∧ ∃ A c, wr.cell? ⟨r, 1, none⟩ = some (.slice A s'.loose.length c) := by
  obtain ⟨S, S', h1, ⟨fz, V1, V2, sl, h2⟩, _⟩ := h
  obtain ⟨A, c, rfl, _⟩ := row_shape h2.row2
  obtain ⟨_, c1, c2, _⟩ := h2.cells
  exact ⟨c2, A, c, c1⟩
/-- The document's fuse is laid by the law itself. -/
theorem Duo.fused (h : Duo w d T s r T' s' L wr) (n : Int) (hn : n < 9223372036854775808) : Duo w d T s r T' (s'.fuseAt n) L (wr.setCell ⟨r, 3, none⟩ (.int .i64 (max n (-1)))) := by
  obtain ⟨S, S', h1, h2, ha, h3, h4, h5⟩ := h
  have hS := h2.here
  obtain ⟨fz, V1, V2, sl, h2⟩ := h2
  refine Duo.movedR h1 ha h3 h4 h5 ⟨max n (-1), V1, V2, sl, ?_⟩ (Own.same (turns_cell hS _ _))
  refine h2.set3 (max n (-1)) _ ?_ (by omega)
  by_cases h0 : 0 ≤ n
  · rw [if_pos h0, if_pos (by omega)]; congr 2; omega
  · rw [if_neg h0, if_neg (by omega)]
theorem Duo.size_le (h : Duo w d T s r T' s' L wr) : w.heap.size ≤ wr.heap.size := h.below.size

theorem duo_new {w0 w : World} (hb : Below w0.heap.size w0 w) (h : Dat w0 d T s [] w) : Calls Try.prog 11 #[] w fun E w' => ∃ r, E = .returned (.pointer (some ⟨r, 0, none⟩)) ∧ Duo w0 d T s r 0 Dk.new [] w' := by
  obtain ⟨S, h1, h2, _⟩ := h
  exact (refNew_any w).mono fun E w' ⟨r, e, h3, h4, h5⟩ => ⟨r, e, S, (· = r), h1.turns (Turns.of_below h4) (S' := fun _ => False) (fun _ _ x => x), h3, fun k hk x => by have := h1.lt k hk; omega, h2.trans (Own.same (Turns.of_below h4)),
    ⟨(h2.trans (Own.same (Turns.of_below h4))).1, fun k hk => .inr (by rw [hk]; exact Nat.le_trans hb.size h5)⟩, fun _ hp => (by cases hp)⟩
theorem duo_readD (h : Duo w d T s r T' s' L wr) (x : Int) (hx : I64 x) (X : List UInt8) (e : Int) (he : s.read x = (X, e)) :
    Calls Try.prog 12 #[.pointer (some ⟨d, 0, none⟩), .int .i64 x] wr fun E w' => E = .returned (.tuple #[.agg (u8s X).toArray, .int .i64 e]) ∧ Duo w d T s r T' s' L w' ∧ Below wr.heap.size wr w' := by
  have h' := h
  obtain ⟨S, S', h1, h2, ha, h3, h4, h5⟩ := h
  have := read_any h1 x hx
  rw [he] at this
  exact this.mono fun _ _ ⟨e, h3⟩ => ⟨e, h'.next h3, h3⟩
theorem duo_readR (h : Duo w d T s r T' s' L wr) (hT : T' < 1000000000) (x : Int) (X : List UInt8) (e : Int) (he : s'.read x = (X, e)) :
    Calls Try.prog 13 #[.pointer (some ⟨r, 0, none⟩), .int .i64 x] wr fun E w' => E = .returned (.tuple #[.agg (u8s X).toArray, .int .i64 e]) ∧ Duo w d T s r T' s' L w' ∧ Below wr.heap.size wr w' := by
  have h' := h
  obtain ⟨S, S', h1, h2, ha, h3, h4, h5⟩ := h
  have := refRead_any h2 x hT
  rw [he] at this
  exact this.mono fun _ _ ⟨e, h3⟩ => ⟨e, h'.next h3, h3⟩
theorem duo_writeD (h : Duo w d T s r T' s' L wr) (x : Int) (b : List UInt8) (hb : b.length = 128) (hT : T < 1000000000) :
    Calls Try.prog 14 #[.pointer (some ⟨d, 0, none⟩), .int .i64 x, .agg (u8s b).toArray] wr fun E w' => E = .returned (.int .i64 (s.write x b).2) ∧ Duo w d (T + 1) (s.write x b).1 r T' s' L w' := by
  obtain ⟨S, S', h1, h2, ha, h3, h4, h5⟩ := h
  exact (write_any h1 x b hb hT).mono fun _ _ ⟨e, S2, k1, k2⟩ => ⟨e, Duo.movedD h2 ha h3 h4 h5 k1 k2⟩
theorem duo_writeR (h : Duo w d T s r T' s' L wr) (x : Int) (b : List UInt8) (hb : b.length = 128) (hT : T' < 1000000000) :
    Calls Try.prog 16 #[.pointer (some ⟨r, 0, none⟩), .int .i64 x, .agg (u8s b).toArray] wr fun E w' => E = .returned (.int .i64 (s'.write x b).2) ∧ Duo w d T s r (T' + 1) (s'.write x b).1 L w' := by
  obtain ⟨S, S', h1, h2, ha, h3, h4, h5⟩ := h
  exact (refWrite_any h2 x b hb hT).mono fun _ _ ⟨e, S2, k1, k2⟩ => ⟨e, Duo.movedR h1 ha h3 h4 h5 k1 k2⟩
theorem duo_syncD (h : Duo w d T s r T' s' L wr) (hT : T < 1000000000) : Calls Try.prog 17 #[.pointer (some ⟨d, 0, none⟩)] wr fun E w' => E = .returned (.int .i64 s.sync.2) ∧ Duo w d T s.sync.1 r T' s' L w' := by
  obtain ⟨S, S', h1, h2, ha, h3, h4, h5⟩ := h
  exact (sync_any h1 hT).mono fun _ _ ⟨e, k1, k2⟩ => ⟨e, Duo.movedD h2 ha h3 h4 h5 k1 (Own.same k2)⟩
theorem duo_syncR (h : Duo w d T s r T' s' L wr) (hT : T' < 100000000) : Calls Try.prog 18 #[.pointer (some ⟨r, 0, none⟩)] wr fun E w' => E = .returned (.int .i64 s'.sync.2) ∧ Duo w d T s r T' s'.sync.1 L w' := by
  obtain ⟨S, S', h1, h2, ha, h3, h4, h5⟩ := h
  exact (refSync_any h2 hT).mono fun _ _ ⟨e, S2, k1, k2⟩ => ⟨e, Duo.movedR h1 ha h3 h4 h5 k1 k2⟩
theorem duo_fuseD (h : Duo w d T s r T' s' L wr) (n : Int) (hn : n < 9223372036854775808) : Calls Try.prog 19 #[.pointer (some ⟨d, 0, none⟩), .int .i64 n] wr fun E w' => E = .returned (.tuple #[]) ∧ Duo w d T (s.fuseAt n) r T' s' L w' := by
  obtain ⟨S, S', h1, h2, ha, h3, h4, h5⟩ := h
  exact (fuse_any h1 n hn).mono fun _ _ ⟨e, k1, k2⟩ => ⟨e, Duo.movedD h2 ha h3 h4 h5 k1 (Own.same k2)⟩
theorem duo_offD (h : Duo w d T s r T' s' L wr) : Calls Try.prog 20 #[.pointer (some ⟨d, 0, none⟩)] wr fun E w' => E = .returned (.tuple #[]) ∧ Duo w d T s.offed r T' s' L w' := by
  obtain ⟨S, S', h1, h2, ha, h3, h4, h5⟩ := h
  exact (off_any h1).mono fun _ _ ⟨e, k1, k2⟩ => ⟨e, Duo.movedD h2 ha h3 h4 h5 k1 (Own.same k2)⟩
theorem duo_offR (h : Duo w d T s r T' s' L wr) : Calls Try.prog 21 #[.pointer (some ⟨r, 0, none⟩)] wr fun E w' => E = .returned (.tuple #[]) ∧ Duo w d T s r T' s'.offed L w' := by
  obtain ⟨S, S', h1, h2, ha, h3, h4, h5⟩ := h
  exact (refOff_any h2).mono fun _ _ ⟨e, k1, k2⟩ => ⟨e, Duo.movedR h1 ha h3 h4 h5 k1 (Own.same k2)⟩
theorem rd_apart {S : Nat → Prop} {A : Option Addr} {n : Nat} {bs : List UInt8} (hr : Rd (fun b => b < w.heap.size) wr A n bs) (h : Own w (fun _ => False) wr S) : Rd (fun b => ¬ S b) wr A n bs :=
  ⟨hr.1, fun hn => let ⟨b, o, e, hb, hp, hc⟩ := hr.2 hn; ⟨b, o, e, hb, (fun x => (h.2 b x).elim id (fun y => by have hp' : b < w.heap.size := hp; omega)), hc⟩⟩
theorem duo_onD (h : Duo w d T s r T' s' L wr) (hT : T < 1000000000) (A : Option Addr) (n c : Nat) (bs : List UInt8) (hr : Rd (fun b => b < w.heap.size) wr A n bs) (hs : Sl A n c) :
    Calls Try.prog 22 #[.pointer (some ⟨d, 0, none⟩), .slice A n c] wr fun E w' => E = .returned (.int .i64 (s.on bs).2) ∧ Duo w d T (s.on bs).1 r T' s' L w' := by
  obtain ⟨S, S', h1, h2, ha, h3, h4, h5⟩ := h
  exact (on_any h1 hT A n c bs (rd_apart hr h3) hs).mono fun _ _ ⟨e, k1, k2⟩ => ⟨e, Duo.movedD h2 ha h3 h4 h5 k1 (Own.same k2)⟩
theorem duo_onR (h : Duo w d T s r T' s' L wr) (hT : T' < 100000000) (A : Option Addr) (n c : Nat) (bs : List UInt8) (hr : Rd (fun b => b < w.heap.size) wr A n bs) (hs : Sl A n c) :
    Calls Try.prog 23 #[.pointer (some ⟨r, 0, none⟩), .slice A n c] wr fun E w' => E = .returned (.int .i64 (s'.on bs).2) ∧ Duo w d T s r T' (s'.on bs).1 L w' := by
  obtain ⟨S, S', h1, h2, ha, h3, h4, h5⟩ := h
  exact (refOn_any h2 hT A n c bs (rd_apart hr h4) hs).mono fun _ _ ⟨e, S2, k1, k2⟩ => ⟨e, Duo.movedR h1 ha h3 h4 h5 k1 k2⟩
theorem duo_power (h : Duo w d T s r T' s' L wr) : Calls Try.prog 24 #[.pointer (some ⟨d, 0, none⟩)] wr fun E w' => E = .returned (.bool !s.off) ∧ wr = w' := let ⟨_, _, h1, _⟩ := h; power_any h1
theorem duo_loose (h : Duo w d T s r T' s' L wr) : Calls Try.prog 25 #[.pointer (some ⟨d, 0, none⟩)] wr fun E w' => E = .returned (.int .i64 (s.loose.length : Int)) ∧ wr = w' := let ⟨_, _, h1, _⟩ := h; loose_any h1
end
end Go.Proofs.Ythbbghkefekhfaa
