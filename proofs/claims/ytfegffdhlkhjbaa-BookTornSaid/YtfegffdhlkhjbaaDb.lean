/-
  What is proved: the disk as the document has it, and how it lies in memory; the calls that only look at it or turn its own cells. Conditions as stated.
-/
import Derived.Test.YtfegffdhlkhjbaaDa
namespace Go.Proofs.Ytfegffdhlkhjbaa
open Go.RowKit

def zeros : List UInt8 := List.replicate 128 0

/-- The disk: is the power off; the fuse; what each sector has that is sure (none: it is lost); the loose writes. -/
structure Dk where
  off : Bool
  fuse : Option Nat
  sure : Int → Option (List UInt8)
  loose : List (Int × List UInt8)

def Dk.new : Dk := ⟨false, none, fun _ => some zeros, []⟩
/-- The last write for a sector. -/
def lastW : List (Int × List UInt8) → Int → Option (List UInt8)
  | [], _ => none
  | p :: r, x => match lastW r x with
    | some b => some b
    | none => if p.1 = x then some p.2 else none
theorem lastW_snoc (x y : Int) (b : List UInt8) : ∀ l : List (Int × List UInt8), lastW (l ++ [(x, b)]) y = if x = y then some b else lastW l y
  | [] => by simp [lastW]
  | p :: r => by
    rw [List.cons_append, lastW, lastW_snoc x y b r, lastW]
    by_cases h : x = y <;> simp [h]
def Dk.rests (s : Dk) : Int := if s.off then 8 else 0
def Dk.refuses (s : Dk) (at' : Int) : Int := if s.off then 8 else if at' < 0 ∨ 32768 ≤ at' then 1 else 0
def Dk.read (s : Dk) (at' : Int) : List UInt8 × Int :=
  if s.refuses at' ≠ 0 then (zeros, s.refuses at') else match lastW s.loose at' with
    | some b => (b, 0)
    | none => match s.sure at' with
      | some b => (b, 0)
      | none => (zeros, 9)
def Dk.burn (s : Dk) : Dk × Int := match s.fuse with
  | none => (s, 0)
  | some 0 => ({ s with off := true, fuse := none }, 8)
  | some (n + 1) => ({ s with fuse := some n }, 0)
def Dk.write (s : Dk) (at' : Int) (b : List UInt8) : Dk × Int := if s.refuses at' ≠ 0 then (s, s.refuses at') else Dk.burn { s with loose := s.loose ++ [(at', b)] }
def done (f : Int → Option (List UInt8)) (p : Int × List UInt8) (pick : Nat) : Int → Option (List UInt8) :=
  if pick % 4 = 0 then f else if pick % 4 = 2 then upd f p.1 none else upd f p.1 (some p.2)
def settled (t : Nat → Nat) : Nat → (Int → Option (List UInt8)) → List (Int × List UInt8) → Int → Option (List UInt8)
  | _, f, [] => f
  | i, f, p :: r => settled t (i + 1) (done f p (t i)) r
theorem settled_snoc (t : Nat → Nat) (p : Int × List UInt8) : ∀ (l : List (Int × List UInt8)) (i : Nat) (f : Int → Option (List UInt8)), settled t i f (l ++ [p]) = done (settled t i f l) p (t (i + l.length))
  | [], _, _ => rfl
  | q :: r, i, f => by
    rw [List.cons_append, settled, settled_snoc t p r, settled, List.length_cons, show i + 1 + r.length = i + (r.length + 1) by omega]
def Dk.settle (s : Dk) (t : Nat → Nat) : Dk := { s with sure := settled t 0 s.sure s.loose, loose := [] }
def Dk.sync (s : Dk) : Dk × Int := if s.off then (s, 8) else if s.burn.2 ≠ 0 then s.burn else (s.burn.1.settle fun _ => 1, 0)
def Dk.fuseAt (s : Dk) (n : Int) : Dk := { s with fuse := if 0 ≤ n then some n.toNat else none }
def Dk.offed (s : Dk) : Dk := { s with off := true, fuse := none }
def Dk.on (s : Dk) (picks : List UInt8) : Dk × Int := if s.off then (Dk.settle { s with off := false, fuse := none } fun i => (picks.getD i 0).toNat, 0) else (s, 3)

/-! ### in memory -/
def dcells (off fused : Bool) (left : Int) (ms ml : Option Nat) (L : Value) (mn : Option Nat) : List Value := [.bool off, .bool fused, .int .i64 left, .map ms, .map ml, L, .map mn]
def wcells (p : Int × List UInt8) : List Value := .int .i64 p.1 :: u8s p.2
def vS (g : Int → Option (List UInt8)) (x : Int) : Option Value := (g x).map fun b => .agg (u8s b).toArray
def vL (g : Int → Bool) (x : Int) : Option Value := if g x then some (.bool true) else none
def vN (g : Int → Option Nat) (x : Int) : Option Value := (g x).map fun i => .int .i64 (i : Int)

/-- The three maps: none of them is made, or all. -/
def Maps3 (w : World) (T k : Nat) (ms ml mn : Option Nat) (gs : Int → Option (List UInt8)) (gl : Int → Bool) (gn : Int → Option Nat) : Prop :=
  (ms = none ∧ ml = none ∧ mn = none ∧ k = 0 ∧ (∀ x, gs x = none) ∧ (∀ x, gl x = false) ∧ ∀ x, gn x = none) ∨
  ∃ bs bl bn, ms = some bs ∧ ml = some bl ∧ mn = some bn ∧ bs ≠ bl ∧ bs ≠ bn ∧ bl ≠ bn ∧ World.mapAt w bs (T - k) (vS gs) ∧ World.mapAt w bl (T - k) (vL gl) ∧ World.mapAt w bn T (vN gn)

structure Rep (w : World) (S : Nat → Prop) (d T : Nat) (s : Dk) (fused : Bool) (left : Int) (ms ml mn : Option Nat) (L : Value) (gs : Int → Option (List UInt8)) (gl : Int → Bool) (gn : Int → Option Nat) : Prop where
  hd : w.heap[d]? = some (.cells (dcells s.off fused left ms ml L mn).toArray 60 (0, 0))
  fuse : s.fuse = if fused then some left.toNat else none
  left : 0 ≤ left ∧ left < 9223372036854775808
  maps : Maps3 w T s.loose.length ms ml mn gs gl gn
  many : s.loose.length ≤ T
  row : w.ownsRow 0 75 129 L s.loose.length (s.loose.flatMap wcells)
  sure : ∀ x, s.sure x = if gl x then none else some ((gs x).getD zeros)
  newest : ∀ y, (gn y = none ∧ lastW s.loose y = none) ∨ ∃ j b, gn y = some j ∧ s.loose[j]? = some (y, b) ∧ lastW s.loose y = some b
  len : ∀ p ∈ s.loose, p.2.length = 128 ∧ 0 ≤ p.1 ∧ p.1 < 32768
  glen : ∀ x b, gs x = some b → b.length = 128
  own : ∀ k, (k = d ∨ ms = some k ∨ ml = some k ∨ mn = some k ∨ L.ownBlock = some k) → S k
  lt : ∀ k, S k → k < w.heap.size

/-- A disk lies at d, in the blocks of S; T bounds how much was ever written. -/
def DiskIs (w : World) (S : Nat → Prop) (d T : Nat) (s : Dk) : Prop := ∃ fused left ms ml mn L gs gl gn, Rep w S d T s fused left ms ml mn L gs gl gn

theorem row_kept {w w' : World} {L : Value} {n : Nat} {xs : List Value} (h : w.ownsRow 0 75 129 L n xs) (he : ∀ g, L.ownBlock = some g → w'.heap[g]? = w.heap[g]?) : w'.ownsRow 0 75 129 L n xs := by
  refine ⟨h.1, ?_⟩
  rcases h.2 with hn | ⟨g, cap, cur, rfl, hb, hgg, rest⟩
  · exact .inl hn
  · exact .inr ⟨g, cap, cur, rfl, hb, (he g rfl).trans hgg, rest⟩
theorem maps_kept {w w' : World} {T k : Nat} {ms ml mn : Option Nat} {gs : Int → Option (List UInt8)} {gl : Int → Bool} {gn : Int → Option Nat} (h : Maps3 w T k ms ml mn gs gl gn)
    (he : ∀ b, (ms = some b ∨ ml = some b ∨ mn = some b) → w'.heap[b]? = w.heap[b]?) : Maps3 w' T k ms ml mn gs gl gn := by
  rcases h with h | ⟨bs, bl, bn, h1, h2, h3, h4, h5, h6, h7, h8, h9⟩
  · exact .inl h
  · exact .inr ⟨bs, bl, bn, h1, h2, h3, h4, h5, h6, mapAt_kept h7 (he _ (.inl h1)), mapAt_kept h8 (he _ (.inr (.inl h2))), mapAt_kept h9 (he _ (.inr (.inr h3)))⟩
/-- Neither a map nor the row lies in the disk's own block. -/
theorem Rep.apart {w : World} {S : Nat → Prop} {d T : Nat} {s : Dk} {fused : Bool} {left : Int} {ms ml mn : Option Nat} {L : Value} {gs : Int → Option (List UInt8)} {gl : Int → Bool} {gn : Int → Option Nat}
    (h : Rep w S d T s fused left ms ml mn L gs gl gn) : (∀ b, (ms = some b ∨ ml = some b ∨ mn = some b) → b ≠ d) ∧ ∀ g, L.ownBlock = some g → g ≠ d := by
  have hd := h.hd
  constructor
  · rintro b hb rfl
    rcases h.maps with ⟨rfl, rfl, rfl, _⟩ | ⟨bs, bl, bn, rfl, rfl, rfl, _, _, _, h7, h8, h9⟩
    · simp at hb
    · rcases hb with e | e | e <;> cases e
      · obtain ⟨es, c, h0⟩ := mapAt_block h7; rw [hd] at h0; simp at h0
      · obtain ⟨es, c, h0⟩ := mapAt_block h8; rw [hd] at h0; simp at h0
      · obtain ⟨es, c, h0⟩ := mapAt_block h9; rw [hd] at h0; simp at h0
  · rintro g hg rfl
    rcases h.row.2 with ⟨rfl, _⟩ | ⟨g', cap, cur, rfl, _, hgg, _⟩
    · simp [Value.ownBlock] at hg
    · simp [Value.ownBlock] at hg
      subst hg
      rw [hd] at hgg
      simp at hgg

/-- What is another block's leaves the disk; its own cells may tell something else of the power and the fuse. -/
theorem Rep.turned {w w' : World} {S : Nat → Prop} {d T : Nat} {s : Dk} {fused : Bool} {left : Int} {ms ml mn : Option Nat} {L : Value} {gs : Int → Option (List UInt8)} {gl : Int → Bool} {gn : Int → Option Nat}
    (h : Rep w S d T s fused left ms ml mn L gs gl gn) (hk : ∀ k, S k → k ≠ d → w'.heap[k]? = w.heap[k]?) (hz : w.heap.size ≤ w'.heap.size) {off' fused' : Bool} {left' : Int} {fuse' : Option Nat}
    (hd' : w'.heap[d]? = some (.cells (dcells off' fused' left' ms ml L mn).toArray 60 (0, 0))) (hf : fuse' = if fused' then some left'.toNat else none) (hl : 0 ≤ left' ∧ left' < 9223372036854775808) :
    Rep w' S d T { s with off := off', fuse := fuse' } fused' left' ms ml mn L gs gl gn := by
  obtain ⟨a1, a2⟩ := h.apart
  have ho := h.own
  exact ⟨hd', hf, hl, maps_kept h.maps fun b hb => hk b (ho b (by rcases hb with e | e | e <;> simp [e])) (a1 b hb), h.many, row_kept h.row fun g hg => hk g (ho g (by simp [hg])) (a2 g hg), h.sure, h.newest, h.len, h.glen, ho, fun k hk => Nat.lt_of_lt_of_le (h.lt k hk) hz⟩
theorem DiskIs.kept {w w' : World} {S : Nat → Prop} {d T : Nat} {s : Dk} (h : DiskIs w S d T s) (hk : ∀ k, S k → w'.heap[k]? = w.heap[k]?) (hz : w.heap.size ≤ w'.heap.size) : DiskIs w' S d T s := by
  obtain ⟨fused, left, ms, ml, mn, L, gs, gl, gn, h⟩ := h
  exact ⟨fused, left, ms, ml, mn, L, gs, gl, gn, h.turned (fun k hs _ => hk k hs) hz ((hk d (h.own d (.inl rfl))).trans h.hd) h.fuse h.left⟩
theorem DiskIs.turns {w w' : World} {S S' : Nat → Prop} {d T : Nat} {s : Dk} (h : DiskIs w S d T s) (ht : Turns S' w w') (ha : ∀ k, S k → ¬ S' k) : DiskIs w' S d T s :=
  h.kept (fun k hk => ht.block k (by obtain ⟨_, _, _, _, _, _, _, _, _, h⟩ := h; exact h.lt k hk) (ha k hk)) ht.size
theorem DiskIs.lt {w : World} {S : Nat → Prop} {d T : Nat} {s : Dk} (h : DiskIs w S d T s) : ∀ k, S k → k < w.heap.size := by obtain ⟨_, _, _, _, _, _, _, _, _, h⟩ := h; exact h.lt
theorem DiskIs.here {w : World} {S : Nat → Prop} {d T : Nat} {s : Dk} (h : DiskIs w S d T s) : S d := by obtain ⟨_, _, _, _, _, _, _, _, _, h⟩ := h; exact h.own d (.inl rfl)

/-- The cells, for a walk. -/
theorem Rep.cells {w : World} {S : Nat → Prop} {d T : Nat} {s : Dk} {fused : Bool} {left : Int} {ms ml mn : Option Nat} {L : Value} {gs : Int → Option (List UInt8)} {gl : Int → Bool} {gn : Int → Option Nat}
    (h : Rep w S d T s fused left ms ml mn L gs gl gn) : w.cell? ⟨d, 0, none⟩ = some (.bool s.off) ∧ w.cell? ⟨d, 1, none⟩ = some (.bool fused) ∧ w.cell? ⟨d, 2, none⟩ = some (.int .i64 left) ∧ w.cell? ⟨d, 3, none⟩ = some (.map ms) ∧
      w.cell? ⟨d, 4, none⟩ = some (.map ml) ∧ w.cell? ⟨d, 5, none⟩ = some L ∧ w.cell? ⟨d, 6, none⟩ = some (.map mn) :=
  ⟨block_cell h.hd 0 _ rfl, block_cell h.hd 1 _ rfl, block_cell h.hd 2 _ rfl, block_cell h.hd 3 _ rfl, block_cell h.hd 4 _ rfl, block_cell h.hd 5 _ rfl, block_cell h.hd 6 _ rfl⟩

theorem new_any (w : World) : Calls Try.prog 9 #[] w fun E w' => ∃ d, E = .returned (.pointer (some ⟨d, 0, none⟩)) ∧ DiskIs w' (· = d) d 0 Dk.new ∧ Below w.heap.size w w' ∧ w.heap.size ≤ d := by
  go_enter Try.func9, Try.ntmps9
  go_wp2
  go_ret
  refine ⟨_, rfl, ⟨false, 0, none, none, none, .slice none 0 0, fun _ => none, fun _ => false, fun _ => none, ?_⟩, (Below.refl _ _).alloc (Nat.le_refl _) _, Nat.le_refl _⟩
  exact ⟨heap_alloc_new w _, rfl, by omega, .inl ⟨rfl, rfl, rfl, rfl, fun _ => rfl, fun _ => rfl, fun _ => rfl⟩, Nat.le_refl _, World.ownsRow_nil _ _ _ _, fun _ => rfl, fun _ => .inl ⟨rfl, rfl⟩, fun _ h => (by cases h), fun _ _ h => (by cases h),
    fun k h => (by simpa [Value.ownBlock] using h), fun k h => (by rw [h]; simp)⟩

theorem rests_any {w : World} {S : Nat → Prop} {d T : Nat} {s : Dk} (h : DiskIs w S d T s) : Calls Try.prog 54 #[.pointer (some ⟨d, 0, none⟩)] w fun E w' => E = .returned (.int .i64 s.rests) ∧ w = w' := by
  obtain ⟨fused, left, ms, ml, mn, L, gs, gl, gn, h⟩ := h
  obtain ⟨c0, _⟩ := h.cells
  clear h
  unfold Dk.rests
  generalize s.off = off at c0 ⊢
  go_enter Try.func54, Try.ntmps54
  cases off
  all_goals (go_wp2; go_ret; exact ⟨rfl, rfl⟩)
theorem refuses_any {w : World} {S : Nat → Prop} {d T : Nat} {s : Dk} (h : DiskIs w S d T s) (x : Int) : Calls Try.prog 36 #[.pointer (some ⟨d, 0, none⟩), .int .i64 x] w fun E w' => E = .returned (.int .i64 (s.refuses x)) ∧ w = w' := by
  have HR := Lib.hid (rests_any h)
  have hs : s.rests = if s.off then 8 else 0 := rfl
  unfold Dk.refuses
  clear h
  generalize s.off = off at hs ⊢
  generalize s.rests = e at hs HR
  cases off
  · simp only [Bool.false_eq_true, if_false] at hs ⊢
    subst hs
    by_cases h1 : x < 0
    · rw [if_pos (Or.inl h1)]
      go_enter Try.func36, Try.ntmps36
      go_wp2_with (first | (go_at_call 54; refine HR.out.mono ?_; rintro E w1 ⟨rfl, rfl⟩))
      go_ret
      exact ⟨rfl, rfl⟩
    · by_cases h2 : 32768 ≤ x
      · rw [if_pos (Or.inr h2)]
        go_enter Try.func36, Try.ntmps36
        go_wp2_with (first | (go_at_call 54; refine HR.out.mono ?_; rintro E w1 ⟨rfl, rfl⟩))
        go_ret
        exact ⟨rfl, rfl⟩
      · rw [if_neg (by omega)]
        go_enter Try.func36, Try.ntmps36
        go_wp2_with (first | (go_at_call 54; refine HR.out.mono ?_; rintro E w1 ⟨rfl, rfl⟩))
        go_ret
        exact ⟨rfl, rfl⟩
  · simp only [if_true] at hs ⊢
    subst hs
    go_enter Try.func36, Try.ntmps36
    go_wp2_with (first | (go_at_call 54; refine HR.out.mono ?_; rintro E w1 ⟨rfl, rfl⟩))
    go_ret
    exact ⟨rfl, rfl⟩

/-- A store into the disk's own cells. -/
theorem turns_cell {S : Nat → Prop} {w : World} {d : Nat} (hd : S d) (i : Nat) (v : Value) : Turns S w (w.setCell ⟨d, i, none⟩ v) := (Turns.refl S w).setCell (.inl hd) i v

theorem Rep.set0 {w : World} {S : Nat → Prop} {d T : Nat} {s : Dk} {fused : Bool} {left : Int} {ms ml mn : Option Nat} {L : Value} {gs : Int → Option (List UInt8)} {gl : Int → Bool} {gn : Int → Option Nat}
    (h : Rep w S d T s fused left ms ml mn L gs gl gn) (o : Bool) : Rep (w.setCell ⟨d, 0, none⟩ (.bool o)) S d T { s with off := o } fused left ms ml mn L gs gl gn :=
  h.turned (fun k _ hk => Below.heap_setCell _ _ _ _ hk) (by simp [World.setCell]) (heap_set h.hd _) h.fuse h.left
theorem Rep.set2 {w : World} {S : Nat → Prop} {d T : Nat} {s : Dk} {fused : Bool} {left : Int} {ms ml mn : Option Nat} {L : Value} {gs : Int → Option (List UInt8)} {gl : Int → Bool} {gn : Int → Option Nat}
    (h : Rep w S d T s fused left ms ml mn L gs gl gn) (l : Int) (fs : Option Nat) (hf : fs = if fused then some l.toNat else none) (hl : 0 ≤ l ∧ l < 9223372036854775808) : Rep (w.setCell ⟨d, 2, none⟩ (.int .i64 l)) S d T { s with fuse := fs } fused l ms ml mn L gs gl gn :=
  h.turned (fun k _ hk => Below.heap_setCell _ _ _ _ hk) (by simp [World.setCell]) (heap_set h.hd _) hf hl
theorem Rep.set12 {w : World} {S : Nat → Prop} {d T : Nat} {s : Dk} {fused : Bool} {left : Int} {ms ml mn : Option Nat} {L : Value} {gs : Int → Option (List UInt8)} {gl : Int → Bool} {gn : Int → Option Nat}
    (h : Rep w S d T s fused left ms ml mn L gs gl gn) (b : Bool) (l : Int) (fs : Option Nat) (hf : fs = if b then some l.toNat else none) (hl : 0 ≤ l ∧ l < 9223372036854775808) :
    Rep ((w.setCell ⟨d, 1, none⟩ (.bool b)).setCell ⟨d, 2, none⟩ (.int .i64 l)) S d T { s with fuse := fs } b l ms ml mn L gs gl gn :=
  h.turned (fun k _ hk => (Below.heap_setCell _ _ _ _ hk).trans (Below.heap_setCell _ _ _ _ hk)) (by simp [World.setCell]) (heap_set (heap_set h.hd _) _) hf hl

theorem fuse_any {w : World} {S : Nat → Prop} {d T : Nat} {s : Dk} (h : DiskIs w S d T s) (n : Int) (hn : n < 9223372036854775808) : Calls Try.prog 11 #[.pointer (some ⟨d, 0, none⟩), .int .i64 n] w fun E w' => E = .returned (.tuple #[]) ∧ DiskIs w' S d T (s.fuseAt n) ∧ Turns S w w' := by
  have hS := h.here
  obtain ⟨fused, left, ms, ml, mn, L, gs, gl, gn, h⟩ := h
  obtain ⟨c0, c1, c2, c3, c4, c5, c6⟩ := h.cells
  have f1 := free_block h.hd 1
  have f2 := free_block h.hd 2
  have HR := Lib.hid h
  clear h
  unfold Dk.fuseAt
  by_cases hp : 0 ≤ n
  · rw [if_pos hp]
    go_enter Try.func11, Try.ntmps11
    go_wp2
    exact bodyPost_end (results_none rfl _ _ _) rfl ⟨rfl, ⟨_, _, _, _, _, _, _, _, _, HR.out.set12 true n _ rfl ⟨hp, hn⟩⟩, (turns_cell hS _ _).trans (turns_cell hS _ _)⟩
  · rw [if_neg hp]
    go_enter Try.func11, Try.ntmps11
    go_wp2
    exact bodyPost_end (results_none rfl _ _ _) rfl ⟨rfl, ⟨_, _, _, _, _, _, _, _, _, HR.out.set12 false 0 _ rfl (by omega)⟩, (turns_cell hS _ _).trans (turns_cell hS _ _)⟩
theorem off_any {w : World} {S : Nat → Prop} {d T : Nat} {s : Dk} (h : DiskIs w S d T s) : Calls Try.prog 15 #[.pointer (some ⟨d, 0, none⟩)] w fun E w' => E = .returned (.tuple #[]) ∧ DiskIs w' S d T s.offed ∧ Turns S w w' := by
  have hS := h.here
  obtain ⟨fused, left, ms, ml, mn, L, gs, gl, gn, h⟩ := h
  obtain ⟨c0, c1, c2, c3, c4, c5, c6⟩ := h.cells
  have f0 := free_block h.hd 0
  have HR := Lib.hid h
  clear h
  go_enter Try.func15, Try.ntmps15
  go_wp2_with (first | (go_at_call 11; refine (fuse_any ⟨_, _, _, _, _, _, _, _, _, HR.out.set0 true⟩ (-1) (by omega)).mono ?_; rintro E w1 ⟨rfl, h1, h2⟩))
  exact bodyPost_end (results_none rfl _ _ _) rfl ⟨rfl, h1, (turns_cell hS _ _).trans h2⟩
def Sl (A : Option Addr) (n c : Nat) : Prop := (A = none → n = 0 ∧ c = 0) ∧ n ≤ c ∧ c ≤ 9223372036854775807
theorem row_shape {w : World} {B n : Nat} {v : Value} {xs : List Value} {e k : Nat} (h : w.ownsRow B e k v n xs) : ∃ A c, v = .slice A n c ∧ Sl A n c := by
  rcases h.2 with ⟨rfl, rfl⟩ | ⟨g, cap, cur, rfl, _, _, hn, hm, _⟩
  · exact ⟨none, 0, rfl, ⟨fun _ => ⟨rfl, rfl⟩, Nat.le_refl _, by omega⟩⟩
  · exact ⟨_, cap, rfl, ⟨(fun h => (by cases h)), hn, by unfold maxLen at hm; omega⟩⟩
theorem burn_any {w : World} {S : Nat → Prop} {d T : Nat} {s : Dk} (h : DiskIs w S d T s) : Calls Try.prog 38 #[.pointer (some ⟨d, 0, none⟩)] w fun E w' => E = .returned (.int .i64 s.burn.2) ∧ DiskIs w' S d T s.burn.1 ∧ Turns S w w' := by
  have hS := h.here
  have HO := Lib.hid (off_any h)
  have H := Lib.hid h
  obtain ⟨fused, left, ms, ml, mn, L, gs, gl, gn, h⟩ := h
  obtain ⟨c0, c1, c2, c3, c4, c5, c6⟩ := h.cells
  have f2 := free_block h.hd 2
  have hf := h.fuse
  have hl := h.left
  have HR := Lib.hid h
  clear h
  cases fused
  · have e : s.burn = (s, 0) := by simp only [Dk.burn, hf]; rfl
    rw [e]
    clear e hf
    go_enter Try.func38, Try.ntmps38
    go_wp2
    go_ret
    exact ⟨rfl, H.out, Turns.refl _ _⟩
  · by_cases hp : 0 < left
    · have e : s.burn = ({ s with fuse := some (left - 1).toNat }, 0) := by
        obtain ⟨m, rfl⟩ : ∃ m : Nat, left = m + 1 := ⟨(left - 1).toNat, by omega⟩
        have : s.fuse = some (m + 1) := by rw [hf]; simp
        simp only [Dk.burn, this]
        congr 2
        simp
      rw [e]
      clear e hf
      go_enter Try.func38, Try.ntmps38
      go_wp2
      go_ret
      exact ⟨rfl, ⟨_, _, _, _, _, _, _, _, _, HR.out.set2 (left - 1) _ rfl (by omega)⟩, turns_cell hS _ _⟩
    · obtain rfl : left = 0 := by omega
      have e : s.burn = (s.offed, 8) := by
        have : s.fuse = some 0 := hf
        simp only [Dk.burn, this]
        rfl
      rw [e]
      clear e hf
      go_enter Try.func38, Try.ntmps38
      go_wp2_with (first | (go_at_call 15; refine HO.out.mono ?_; rintro E w1 ⟨rfl, h1, h2⟩))
      go_ret
      exact ⟨rfl, h1, h2⟩

/-! ### of no disk -/
theorem nil_rests (w : World) : Calls Try.prog 54 #[.pointer none] w fun E w' => E = .returned (.int .i64 2) ∧ w = w' := by
  go_enter Try.func54, Try.ntmps54
  go_wp2
  go_ret
  exact ⟨rfl, rfl⟩
theorem nil_refuses (x : Int) (w : World) : Calls Try.prog 36 #[.pointer none, .int .i64 x] w fun E w' => E = .returned (.int .i64 2) ∧ w = w' := by
  go_enter Try.func36, Try.ntmps36
  go_wp2_with (first | (go_at_call 54; refine (nil_rests _).mono ?_; rintro E w1 ⟨rfl, rfl⟩))
  go_ret
  exact ⟨rfl, rfl⟩
theorem nil_fuse (n : Int) (w : World) : Calls Try.prog 11 #[.pointer none, .int .i64 n] w fun E w' => E = .returned (.tuple #[]) ∧ w = w' := by
  go_enter Try.func11, Try.ntmps11
  go_wp2
  exact bodyPost_end (results_none rfl _ _ _) rfl ⟨rfl, rfl⟩
theorem nil_off (w : World) : Calls Try.prog 15 #[.pointer none] w fun E w' => E = .returned (.tuple #[]) ∧ w = w' := by
  go_enter Try.func15, Try.ntmps15
  go_wp2
  exact bodyPost_end (results_none rfl _ _ _) rfl ⟨rfl, rfl⟩
theorem nil_sync (w : World) : Calls Try.prog 43 #[.pointer none] w fun E w' => E = .returned (.int .i64 2) ∧ w = w' := by
  go_enter Try.func43, Try.ntmps43
  go_wp2_with (first | (go_at_call 54; refine (nil_rests _).mono ?_; rintro E w1 ⟨rfl, rfl⟩))
  go_ret
  exact ⟨rfl, rfl⟩
theorem nil_on (A : Option Addr) (n c : Nat) (w : World) : Calls Try.prog 16 #[.pointer none, .slice A n c] w fun E w' => E = .returned (.int .i64 2) ∧ Below w.heap.size w w' := by
  go_enter Try.func16, Try.ntmps16
  go_wp2
  go_ret
  exact ⟨rfl, (Below.refl _ _).alloc (Nat.le_refl _) _⟩
end Go.Proofs.Ytfegffdhlkhjbaa
