/-
  What is proved: what Bytes answers; the disk's calls as a law meets them. Conditions as stated.
-/
import Derived.Test.YtfegffdhlkhjbaaDg
namespace Go.Proofs.Ytfegffdhlkhjbaa
open Go.RowKit

def secOf (u : UInt8) : List UInt8 := List.replicate 128 u
theorem secOf_length (u : UInt8) : (secOf u).length = 128 := by simp [secOf]
theorem secOf_zero : secOf 0 = zeros := rfl

/-- While a sector of one byte is filled. -/
def BAt (u : UInt8) (w : World) (k : Nat) (wr : World) : Prop :=
  Below w.heap.size w wr ∧ wr.heap[w.heap.size]? = some (.cells (u8s zeros).toArray 43 (0, 0)) ∧ wr.heap[w.heap.size + 1]? = some (.cells (u8s (List.replicate k u ++ List.replicate (128 - k) 0)).toArray 43 (0, 0))

theorem u8s_set (l : List UInt8) (k : Nat) (x : UInt8) : (u8s l).set k (.int .u8 (x.toNat : Int)) = u8s (l.set k x) := by simp [u8s]
theorem fill_set (u : UInt8) (k : Nat) (hk : k < 128) : (List.replicate k u ++ List.replicate (128 - k) (0 : UInt8)).set k u = List.replicate (k + 1) u ++ List.replicate (128 - (k + 1)) 0 := by
  rw [List.set_append_right _ _ (by simp), List.length_replicate, Nat.sub_self, show 128 - k = (128 - (k + 1)) + 1 by omega, List.replicate_succ, List.set_cons_zero, List.replicate_succ' (n := k), List.append_assoc]
  rfl
theorem below_gb {B : Nat} {w a b : World} (h : Below B w a) {g : Nat} (hg : a.grownBy b (some g)) (hB : B ≤ g) (hz : B ≤ a.heap.size) : Below B w b :=
  ⟨hg.os.trans h.os, hg.tape.trans h.tape, hg.output.trans h.output, Nat.le_trans h.size hg.size, fun k hk => (hg.block k (by omega) (fun e => by injection e with e; omega)).trans (h.block k hk)⟩

theorem Try.size5 : (Try.prog.info? 5).map (·.size) = some 1 := by kernel_rfl

set_option maxHeartbeats 1000000 in
set_option maxRecDepth 100000 in
theorem bytes_any (u : UInt8) (w : World) : Calls Try.prog 20 #[.int .u8 (u.toNat : Int)] w fun E w' => E = .returned (.agg (u8s (secOf u)).toArray) ∧ Below w.heap.size w w' := by
  obtain ⟨Z, hZ⟩ : ∃ Z, Z = u8s zeros := ⟨_, rfl⟩
  have hz : ∀ w, (zeroValue 43).run Try.prog w = .ok (.agg Z.toArray) w := by rw [hZ]; exact zero33
  have HS : Hid (BAt u w 0 ((w.alloc (.cells Z.toArray 43)).alloc (.cells Z.toArray 43))) := Lib.hid (by
    rw [hZ]
    refine ⟨((Below.refl _ _).alloc (Nat.le_refl _) _).alloc (by simp) _, ?_, ?_⟩
    · rw [heap_alloc_old _ _ (by simp)]; exact row_new w _ _
    · have := row_new (w.alloc (.cells (u8s zeros).toArray 43)) (u8s zeros) 43
      rw [show (w.alloc (.cells (u8s zeros).toArray 43)).heap.size = w.heap.size + 1 by simp] at this
      exact this)
  clear hZ
  go_enter Try.func20, Try.ntmps20
  go_wp2
  go_loopw [4] (fun v4 wr => ∃ k : Nat, k ≤ 128 ∧ v4 = .int .i64 k ∧ Hid (BAt u w k wr)) (fun v4 _ => 128 - (intOf v4).toNat)
  case atStart => exact ⟨0, by omega, rfl, HS⟩
  case round =>
    clear HS
    obtain ⟨k, hk, rfl, HA⟩ := hrel
    by_cases hkk : k < 128
    · go_wp2_with (first
        | (refine wpList_store_at rfl 5 (.tmp 11) (.tmp 10) rfl (w.heap.size + 1) k (u8s (List.replicate k u ++ List.replicate (128 - k) 0)) 43 HA.out.2.2 (by simp [u8s]; omega) (.int .u8 (u.toNat : Int)) rfl rfl rfl rfl Try.size5 ?_; intro w2 G2))
      go_roundw
      case measure => simp [intOf]; omega
      case rel =>
        refine ⟨k + 1, by omega, by go_num, Lib.hid ⟨below_gb HA.out.1 G2.out.2 (Nat.le_succ _) HA.out.1.size, (G2.out.2.block _ (Array.getElem?_eq_some_iff.1 HA.out.2.1).1 (fun e => by injection e with e; omega)).trans HA.out.2.1, ?_⟩⟩
        rw [← fill_set u k hkk, ← u8s_set]
        exact G2.out.1
    · obtain rfl : k = 128 := by omega
      have HR : Hid (wr.heap[w.heap.size + 1]? = some (.cells (u8s (secOf u)).toArray 43 (0, 0))) := Lib.hid (by simpa [secOf] using HA.out.2.2)
      have HL : Hid ((u8s (secOf u)).length = 128) := Lib.hid (by rw [u8s_length, secOf_length])
      have HI : Hid ((Try.prog.info? 43).map (·.size) = some (u8s (secOf u)).length) := Lib.hid (by rw [HL.out]; exact Try.size43)
      go_wp2_with (first
        | (refine wpList_load_mid rfl 43 (.tmp 3) rfl (w.heap.size + 1) 0 rfl (u8s (secOf u)) _ (range_block HR.out 0 _ (fun j v hv => by rw [Nat.zero_add]; exact hv)) Try.underlying43 rfl HI.out ?_)
        | (refine wpList_store_all rfl 43 (.tmp 2) (.tmp 12) rfl w.heap.size (u8s zeros) (u8s (secOf u)) 43 HA.out.2.1 (by rw [HL.out, u8s_length]; rfl) rfl rfl HI.out (u8s_one _) ?_; intro w2 G2))
      exact bodyPost_ret (ret_range (cs := u8s (secOf u)) rfl rfl (range_block G2.out.1 0 _ (fun j v hv => by rw [Nat.zero_add]; exact hv)) Try.underlying43 rfl HI.out) rfl ⟨rfl, below_gb HA.out.1 G2.out.2 (Nat.le_refl _) HA.out.1.size⟩

/-- The call's own disk at d, and the call's own blocks L beside it: nothing that was there has turned. -/
def Dat (w : World) (d T : Nat) (s : Dk) (L : List (Nat × Obj)) (wr : World) : Prop :=
  ∃ S, DiskIs wr S d T s ∧ Own w (fun _ => False) wr S ∧ ∀ p ∈ L, w.heap.size ≤ p.1 ∧ ¬ S p.1 ∧ wr.heap[p.1]? = some p.2

section
variable {w wr w' : World} {d T : Nat} {s : Dk} {L : List (Nat × Obj)}

theorem Dat.below (h : Dat w d T s L wr) : Below w.heap.size w wr := let ⟨_, _, h2, _⟩ := h; h2.1.below (Nat.le_refl _) (fun _ x => x.elim)
theorem Dat.get (h : Dat w d T s L wr) {q : Nat} {o : Obj} (hq : (q, o) ∈ L) : wr.heap[q]? = some o := let ⟨_, _, _, h3⟩ := h; (h3 _ hq).2.2
theorem Dat.lt (h : Dat w d T s L wr) {q : Nat} {o : Obj} (hq : (q, o) ∈ L) : q < wr.heap.size := (Array.getElem?_eq_some_iff.1 (h.get hq)).1
/-- One step of the disk's. -/
theorem Dat.step {S S' : Nat → Prop} {s' : Dk} {T' : Nat} (h2 : Own w (fun _ => False) wr S) (h3 : ∀ p ∈ L, w.heap.size ≤ p.1 ∧ ¬ S p.1 ∧ wr.heap[p.1]? = some p.2) (h4 : DiskIs w' S' d T' s') (h5 : Own wr S w' S') : Dat w d T' s' L w' := by
  refine ⟨S', h4, h2.trans h5, fun p hp => ?_⟩
  obtain ⟨a, b, c⟩ := h3 p hp
  have hlt := (Array.getElem?_eq_some_iff.1 c).1
  exact ⟨a, fun x => (h5.2 _ x).elim b (fun y => by omega), (h5.1.block _ hlt b).trans c⟩
theorem Dat.next (h : Dat w d T s L wr) (hb : Below wr.heap.size wr w') : Dat w d T s L w' := by
  obtain ⟨S, h1, h2, h3⟩ := h
  exact Dat.step h2 h3 (h1.turns (Turns.of_below hb) (S' := fun _ => False) (fun _ _ x => x)) (Own.same (Turns.of_below hb))
theorem Dat.more (h : Dat w d T s L wr) {T' : Nat} (hT : T ≤ T') : Dat w d T' s L wr := let ⟨S, h1, h2, h3⟩ := h; ⟨S, h1.more hT, h2, h3⟩
/-- A new block is the call's own. -/
theorem Dat.alloc (h : Dat w d T s L wr) (o : Obj) : Dat w d T s ((wr.heap.size, o) :: L) (wr.alloc o) := by
  have hb := h.below
  have h' := h.next ((Below.refl _ wr).alloc (Nat.le_refl _) o)
  obtain ⟨S, h1, h2, h3⟩ := h
  obtain ⟨S', h1', h2', h3'⟩ := h'
  refine ⟨S, h1.alloc o, h2.trans (Own.same ((Turns.refl S wr).alloc o)), fun p hp => ?_⟩
  rcases List.mem_cons.1 hp with rfl | hp
  · exact ⟨hb.size, (fun x => Nat.lt_irrefl _ (h1.lt _ x)), heap_alloc_new wr o⟩
  · obtain ⟨a, b, c⟩ := h3 p hp
    exact ⟨a, b, (heap_alloc_old wr o (Array.getElem?_eq_some_iff.1 c).1).trans c⟩
/-- .. and may be written. -/
theorem Dat.upd {q : Nat} {o o' : Obj} (h : Dat w d T s ((q, o) :: L) wr) (hne : ∀ p ∈ L, p.1 ≠ q) (ho : w'.heap[q]? = some o') (hg : wr.grownBy w' (some q)) : Dat w d T s ((q, o') :: L) w' := by
  obtain ⟨S, h1, h2, h3⟩ := h
  obtain ⟨a, b, c⟩ := h3 (q, o) (by simp)
  refine ⟨S, h1.kept (fun k hk => hg.block k (h1.lt k hk) (fun e => by injection e with e; exact b (e ▸ hk))) hg.size, ⟨h2.1.grown hg (by rintro g e; cases e; exact .inr a), h2.2⟩, fun p hp => ?_⟩
  rcases List.mem_cons.1 hp with rfl | hp
  · exact ⟨a, b, ho⟩
  · obtain ⟨a', b', c'⟩ := h3 p (by simp [hp])
    exact ⟨a', b', (hg.block _ (Array.getElem?_eq_some_iff.1 c').1 (fun e => by injection e with e; exact hne p hp e)).trans c'⟩
theorem Dat.drop {p : Nat × Obj} (h : Dat w d T s (p :: L) wr) : Dat w d T s L wr := let ⟨S, h1, h2, h3⟩ := h; ⟨S, h1, h2, fun p hp => h3 p (by simp [hp])⟩

theorem dat_new {w0 w : World} (hb : Below w0.heap.size w0 w) : Calls Try.prog 9 #[] w fun E w' => ∃ d, E = .returned (.pointer (some ⟨d, 0, none⟩)) ∧ Dat w0 d 0 Dk.new [] w' ∧ w.heap.size ≤ d :=
  (new_any w).mono fun E w' ⟨d, h1, h2, h3, h4⟩ => ⟨d, h1, ⟨_, h2, ⟨(Turns.of_below hb).step (Turns.of_below h3 (S := fun _ => False)) (fun _ x => x.elim), fun k hk => .inr (by rw [hk]; exact Nat.le_trans hb.size h4)⟩, fun _ hp => (by cases hp)⟩, h4⟩
theorem dat_bytes (h : Dat w d T s L wr) (u : UInt8) : Calls Try.prog 20 #[.int .u8 (u.toNat : Int)] wr fun E w' => E = .returned (.agg (u8s (secOf u)).toArray) ∧ Dat w d T s L w' ∧ Below wr.heap.size wr w' :=
  (bytes_any u wr).mono fun _ _ ⟨h1, h2⟩ => ⟨h1, h.next h2, h2⟩
theorem dat_write (h : Dat w d T s L wr) (x : Int) (b : List UInt8) (hb : b.length = 128) (hT : T < 1000000000) :
    Calls Try.prog 21 #[.pointer (some ⟨d, 0, none⟩), .int .i64 x, .agg (u8s b).toArray] wr fun E w' => E = .returned (.int .i64 (s.write x b).2) ∧ Dat w d (T + 1) (s.write x b).1 L w' := by
  obtain ⟨S, h1, h2, h3⟩ := h
  exact (write_any h1 x b hb hT).mono fun _ _ ⟨e, S', h4, h5⟩ => ⟨e, Dat.step h2 h3 h4 h5⟩
theorem dat_read (h : Dat w d T s L wr) (x : Int) (hx : I64 x) :
    Calls Try.prog 19 #[.pointer (some ⟨d, 0, none⟩), .int .i64 x] wr fun E w' => E = .returned (.tuple #[.agg (u8s (s.read x).1).toArray, .int .i64 (s.read x).2]) ∧ Dat w d T s L w' ∧ Below wr.heap.size wr w' := by
  have h' := h
  obtain ⟨S, h1, h2⟩ := h
  exact (read_any h1 x hx).mono fun _ _ ⟨e, h3⟩ => ⟨e, h'.next h3, h3⟩
theorem dat_sync (h : Dat w d T s L wr) (hT : T < 1000000000) : Calls Try.prog 43 #[.pointer (some ⟨d, 0, none⟩)] wr fun E w' => E = .returned (.int .i64 s.sync.2) ∧ Dat w d T s.sync.1 L w' := by
  obtain ⟨S, h1, h2, h3⟩ := h
  exact (sync_any h1 hT).mono fun _ _ ⟨e, h4, h5⟩ => ⟨e, Dat.step h2 h3 h4 (Own.same h5)⟩
theorem dat_fuse (h : Dat w d T s L wr) (n : Int) (hn : n < 9223372036854775808) : Calls Try.prog 11 #[.pointer (some ⟨d, 0, none⟩), .int .i64 n] wr fun E w' => E = .returned (.tuple #[]) ∧ Dat w d T (s.fuseAt n) L w' := by
  obtain ⟨S, h1, h2, h3⟩ := h
  exact (fuse_any h1 n hn).mono fun _ _ ⟨e, h4, h5⟩ => ⟨e, Dat.step h2 h3 h4 (Own.same h5)⟩
theorem dat_off (h : Dat w d T s L wr) : Calls Try.prog 15 #[.pointer (some ⟨d, 0, none⟩)] wr fun E w' => E = .returned (.tuple #[]) ∧ Dat w d T s.offed L w' := by
  obtain ⟨S, h1, h2, h3⟩ := h
  exact (off_any h1).mono fun _ _ ⟨e, h4, h5⟩ => ⟨e, Dat.step h2 h3 h4 (Own.same h5)⟩
/-- Picks that came in. -/
theorem dat_on (h : Dat w d T s L wr) (hT : T < 1000000000) (A : Option Addr) (n c : Nat) (bs : List UInt8) (hr : Rd (fun b => b < w.heap.size) wr A n bs) (hs : Sl A n c) :
    Calls Try.prog 16 #[.pointer (some ⟨d, 0, none⟩), .slice A n c] wr fun E w' => E = .returned (.int .i64 (s.on bs).2) ∧ Dat w d T (s.on bs).1 L w' := by
  obtain ⟨S, h1, h2, h3⟩ := h
  refine (on_any h1 hT A n c bs ⟨hr.1, fun hn => ?_⟩ hs).mono fun _ _ ⟨e, h4, h5⟩ => ⟨e, Dat.step h2 h3 h4 (Own.same h5)⟩
  obtain ⟨b, o, e, hb, hp, hc⟩ := hr.2 hn
  exact ⟨b, o, e, hb, (fun x => (h2.2 b x).elim id (fun y => by have hp' : b < w.heap.size := hp; omega)), hc⟩
/-- Picks that are the call's own. -/
theorem dat_on_own (h : Dat w d T s L wr) (hT : T < 1000000000) (q n c : Nat) (o : Obj) (hq : (q, o) ∈ L) (bs : List UInt8) (hl : bs.length = n) (hc : ∀ j u, bs[j]? = some u → wr.cell? ⟨q, j, none⟩ = some (.int .u8 (u.toNat : Int))) (hn : n ≤ c) (hc9 : c ≤ 9223372036854775807) :
    Calls Try.prog 16 #[.pointer (some ⟨d, 0, none⟩), .slice (some ⟨q, 0, none⟩) n c] wr fun E w' => E = .returned (.int .i64 (s.on bs).2) ∧ Dat w d T (s.on bs).1 L w' := by
  obtain ⟨S, h1, h2, h3⟩ := h
  exact (on_any h1 hT _ n c bs ⟨hl, fun _ => ⟨q, 0, rfl, (Array.getElem?_eq_some_iff.1 (h3 _ hq).2.2).1, (h3 _ hq).2.1, fun j u hu => by rw [Nat.zero_add]; exact hc j u hu⟩⟩ ⟨(fun e => (by cases e)), hn, hc9⟩).mono fun _ _ ⟨e, h4, h5⟩ => ⟨e, Dat.step h2 h3 h4 (Own.same h5)⟩
/-- Picks in a block that was laid just now. -/
theorem dat_on_lit (h : Dat w d T s L wr) (hT : T < 1000000000) (bs : List UInt8) (hl : bs.length < 1000000) :
    Calls Try.prog 16 #[.pointer (some ⟨d, 0, none⟩), .slice (some ⟨wr.heap.size, 0, none⟩) bs.length bs.length] (wr.alloc (.cells (u8s bs).toArray 5)) fun E w' => E = .returned (.int .i64 (s.on bs).2) ∧ Dat w d T (s.on bs).1 L w' :=
  (dat_on_own (h.alloc (.cells (u8s bs).toArray 5)) hT wr.heap.size bs.length bs.length (.cells (u8s bs).toArray 5) (by simp) bs rfl (fun j u hu => block_cell (row_new wr (u8s bs) 5) j _ (by simp [u8s, hu])) (Nat.le_refl _) (by omega)).mono fun _ _ ⟨e, h4⟩ => ⟨e, h4.drop⟩
/-- No picks. -/
theorem dat_on_nil (h : Dat w d T s L wr) (hT : T < 1000000000) :
    Calls Try.prog 16 #[.pointer (some ⟨d, 0, none⟩), .slice none 0 0] wr fun E w' => E = .returned (.int .i64 (s.on []).2) ∧ Dat w d T (s.on []).1 L w' :=
  dat_on h hT none 0 0 [] ⟨rfl, fun h => absurd h (by omega)⟩ ⟨fun _ => ⟨rfl, rfl⟩, Nat.le_refl _, by omega⟩
end
end Go.Proofs.Ytfegffdhlkhjbaa
