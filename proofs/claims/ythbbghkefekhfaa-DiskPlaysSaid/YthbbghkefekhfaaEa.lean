/-
  What is proved: the document's disk in memory; its calls that turn its own cells alone. Conditions as stated.
-/
import Derived.Test.YthbbghkefekhfaaDm
namespace Go.Proofs.Ythbbghkefekhfaa
open Go.RowKit

/-- A write of the document's: of a sector, its bytes, or that it is lost. -/
def rcells (p : Int × List UInt8 × Bool) : List Value := .int .i64 p.1 :: (u8s p.2.1 ++ [.bool p.2.2])
def softW (p : Int × List UInt8) : Int × List UInt8 × Bool := (p.1, p.2, false)
def look : List (Int × List UInt8 × Bool) → Int → Option (List UInt8 × Bool)
  | [], _ => none
  | p :: r, x => match look r x with
    | some q => some q
    | none => if p.1 = x then some p.2 else none
theorem look_snoc (p : Int × List UInt8 × Bool) (x : Int) : ∀ l : List (Int × List UInt8 × Bool), look (l ++ [p]) x = if p.1 = x then some p.2 else look l x
  | [] => by simp [look]
  | q :: r => by
    rw [List.cons_append, look, look_snoc p x r, look]
    by_cases h : p.1 = x <;> simp [h]
theorem look_soft (x : Int) : ∀ l : List (Int × List UInt8), look (l.map softW) x = (lastW l x).map fun b => (b, false)
  | [] => rfl
  | p :: r => by
    rw [List.map_cons, look, look_soft x r, lastW]
    cases lastW r x with
    | some b => rfl
    | none =>
      simp only [Option.map_none, softW]
      by_cases h : p.1 = x <;> simp [h]
theorem rcells_length {p : Int × List UInt8 × Bool} (h : p.2.1.length = 128) : (rcells p).length = 130 := by simp [rcells, u8s_length, h]
theorem rcells_one (p : Int × List UInt8 × Bool) : ∀ v ∈ rcells p, v.oneCell' = true := by
  intro v hv
  rcases List.mem_cons.1 hv with rfl | h
  · rfl
  · rcases List.mem_append.1 h with h | h
    · exact u8s_one _ _ h
    · simp at h; subst h; rfl
theorem rflat_at : ∀ (l : List (Int × List UInt8 × Bool)), (∀ p ∈ l, p.2.1.length = 128) → ∀ (j : Nat) (p : Int × List UInt8 × Bool), l[j]? = some p → ∀ i, i < 130 → (l.flatMap rcells)[j * 130 + i]? = (rcells p)[i]?
  | [], _, j, p, hj, _, _ => by simp at hj
  | q :: r, hl, 0, p, hj, i, hi => by
    simp at hj
    subst hj
    rw [List.flatMap_cons, Nat.zero_mul, Nat.zero_add, List.getElem?_append_left (by rw [rcells_length (hl _ (by simp))]; exact hi)]
  | q :: r, hl, j + 1, p, hj, i, hi => by
    have h1 := rcells_length (hl q (by simp))
    rw [List.flatMap_cons, List.getElem?_append_right (by rw [h1]; omega), h1, show (j + 1) * 130 + i - 130 = j * 130 + i by omega]
    exact rflat_at r (fun p hp => hl p (by simp [hp])) j p (by simpa using hj) i hi

def dref (V1 V2 : Value) (off : Bool) (fz : Int) : List Value := [V1, V2, .bool off, .int .i64 fz]
structure RRep (w : World) (S : Nat → Prop) (r T : Nat) (s : Dk) (fz : Int) (V1 V2 : Value) (sl : List (Int × List UInt8 × Bool)) : Prop where
  hd : w.heap[r]? = some (.cells (dref V1 V2 s.off fz).toArray 43 (0, 0))
  fuse : s.fuse = if 0 ≤ fz then some fz.toNat else none
  bound : -1 ≤ fz ∧ fz < 9223372036854775808
  sure : ∀ x, s.sure x = match look sl x with
    | none => some zeros
    | some q => if q.2 then none else some q.1
  uniq : sl.Pairwise fun p q => p.1 ≠ q.1
  slen : ∀ p ∈ sl, p.2.1.length = 128
  len : ∀ p ∈ s.loose, p.2.length = 128
  row1 : w.ownsRow 0 68 130 V1 sl.length (sl.flatMap rcells)
  row2 : w.ownsRow 0 68 130 V2 s.loose.length ((s.loose.map softW).flatMap rcells)
  ap : ∀ g, V1.ownBlock = some g → V2.ownBlock ≠ some g
  many : sl.length + s.loose.length ≤ T
  own : ∀ k, (k = r ∨ V1.ownBlock = some k ∨ V2.ownBlock = some k) → S k
  lt : ∀ k, S k → k < w.heap.size
/-- The document's disk lies at r, in the blocks of S. -/
def RefIs (w : World) (S : Nat → Prop) (r T : Nat) (s : Dk) : Prop := ∃ fz V1 V2 sl, RRep w S r T s fz V1 V2 sl

theorem rrow_kept {w w' : World} {L : Value} {n : Nat} {xs : List Value} (h : w.ownsRow 0 68 130 L n xs) (he : ∀ g, L.ownBlock = some g → w'.heap[g]? = w.heap[g]?) : w'.ownsRow 0 68 130 L n xs := by
  refine ⟨h.1, ?_⟩
  rcases h.2 with hn | ⟨g, cap, cur, rfl, hb, hgg, rest⟩
  · exact .inl hn
  · exact .inr ⟨g, cap, cur, rfl, hb, (he g rfl).trans hgg, rest⟩
theorem RRep.apart {w : World} {S : Nat → Prop} {r T : Nat} {s : Dk} {fz : Int} {V1 V2 : Value} {sl : List (Int × List UInt8 × Bool)} (h : RRep w S r T s fz V1 V2 sl) : (∀ g, V1.ownBlock = some g → g ≠ r) ∧ ∀ g, V2.ownBlock = some g → g ≠ r := by
  have key : ∀ {V : Value} {n : Nat} {xs : List Value}, w.ownsRow 0 68 130 V n xs → ∀ g, V.ownBlock = some g → g ≠ r := by
    intro V n xs hr g hg e
    subst e
    rcases hr.2 with ⟨rfl, _⟩ | ⟨g', cap, cur, rfl, _, hgg, _⟩
    · simp [Value.ownBlock] at hg
    · simp [Value.ownBlock] at hg
      subst hg
      rw [h.hd] at hgg
      simp at hgg
  exact ⟨key h.row1, key h.row2⟩
theorem RRep.turned {w w' : World} {S : Nat → Prop} {r T : Nat} {s : Dk} {fz : Int} {V1 V2 : Value} {sl : List (Int × List UInt8 × Bool)} (h : RRep w S r T s fz V1 V2 sl) (hk : ∀ k, S k → k ≠ r → w'.heap[k]? = w.heap[k]?) (hz : w.heap.size ≤ w'.heap.size)
    {off' : Bool} {fz' : Int} {fuse' : Option Nat} (hd' : w'.heap[r]? = some (.cells (dref V1 V2 off' fz').toArray 43 (0, 0))) (hf : fuse' = if 0 ≤ fz' then some fz'.toNat else none) (hb : -1 ≤ fz' ∧ fz' < 9223372036854775808) :
    RRep w' S r T { s with off := off', fuse := fuse' } fz' V1 V2 sl := by
  obtain ⟨a1, a2⟩ := h.apart
  exact ⟨hd', hf, hb, h.sure, h.uniq, h.slen, h.len, rrow_kept h.row1 fun g hg => hk g (h.own g (by simp [hg])) (a1 g hg), rrow_kept h.row2 fun g hg => hk g (h.own g (by simp [hg])) (a2 g hg), h.ap, h.many, h.own, fun k hk => Nat.lt_of_lt_of_le (h.lt k hk) hz⟩
theorem RefIs.kept {w w' : World} {S : Nat → Prop} {r T : Nat} {s : Dk} (h : RefIs w S r T s) (hk : ∀ k, S k → w'.heap[k]? = w.heap[k]?) (hz : w.heap.size ≤ w'.heap.size) : RefIs w' S r T s := by
  obtain ⟨fz, V1, V2, sl, h⟩ := h
  exact ⟨fz, V1, V2, sl, h.turned (fun k hs _ => hk k hs) hz ((hk r (h.own r (.inl rfl))).trans h.hd) h.fuse h.bound⟩
theorem RefIs.lt {w : World} {S : Nat → Prop} {r T : Nat} {s : Dk} (h : RefIs w S r T s) : ∀ k, S k → k < w.heap.size := let ⟨_, _, _, _, h⟩ := h; h.lt
theorem RefIs.here {w : World} {S : Nat → Prop} {r T : Nat} {s : Dk} (h : RefIs w S r T s) : S r := let ⟨_, _, _, _, h⟩ := h; h.own r (.inl rfl)
theorem RefIs.turns {w w' : World} {S S' : Nat → Prop} {r T : Nat} {s : Dk} (h : RefIs w S r T s) (ht : Turns S' w w') (ha : ∀ k, S k → ¬ S' k) : RefIs w' S r T s := h.kept (fun k hk => ht.block k (h.lt k hk) (ha k hk)) ht.size
theorem RRep.cells {w : World} {S : Nat → Prop} {r T : Nat} {s : Dk} {fz : Int} {V1 V2 : Value} {sl : List (Int × List UInt8 × Bool)} (h : RRep w S r T s fz V1 V2 sl) :
    w.cell? ⟨r, 0, none⟩ = some V1 ∧ w.cell? ⟨r, 1, none⟩ = some V2 ∧ w.cell? ⟨r, 2, none⟩ = some (.bool s.off) ∧ w.cell? ⟨r, 3, none⟩ = some (.int .i64 fz) :=
  ⟨block_cell h.hd 0 _ rfl, block_cell h.hd 1 _ rfl, block_cell h.hd 2 _ rfl, block_cell h.hd 3 _ rfl⟩

theorem refNew_any (w : World) : Calls Try.prog 11 #[] w fun E w' => ∃ r, E = .returned (.pointer (some ⟨r, 0, none⟩)) ∧ RefIs w' (· = r) r 0 Dk.new ∧ Below w.heap.size w w' ∧ w.heap.size ≤ r := by
  go_enter Try.func11, Try.ntmps11
  go_wp2
  go_ret
  refine ⟨_, rfl, ⟨-1, .slice none 0 0, .slice none 0 0, [], ?_⟩, (Below.refl _ _).alloc (Nat.le_refl _) _, Nat.le_refl _⟩
  exact ⟨heap_alloc_new w _, rfl, by omega, fun _ => rfl, List.Pairwise.nil, fun _ h => (by cases h), fun _ h => (by cases h), World.ownsRow_nil _ _ _ _, World.ownsRow_nil _ _ _ _, fun g h => (by simp [Value.ownBlock] at h), Nat.le_refl _,
    fun k h => (by simpa [Value.ownBlock] using h), fun k h => (by rw [h]; simp)⟩

theorem RRep.set23 {w : World} {S : Nat → Prop} {r T : Nat} {s : Dk} {fz : Int} {V1 V2 : Value} {sl : List (Int × List UInt8 × Bool)} (h : RRep w S r T s fz V1 V2 sl) (o : Bool) (f : Int) (fs : Option Nat) (hf : fs = if 0 ≤ f then some f.toNat else none) (hb : -1 ≤ f ∧ f < 9223372036854775808) :
    RRep ((w.setCell ⟨r, 2, none⟩ (.bool o)).setCell ⟨r, 3, none⟩ (.int .i64 f)) S r T { s with off := o, fuse := fs } f V1 V2 sl :=
  h.turned (fun k _ hk => (Below.heap_setCell _ _ _ _ hk).trans (Below.heap_setCell _ _ _ _ hk)) (by simp [World.setCell]) (heap_set (heap_set h.hd _) _) hf hb
theorem RRep.set3 {w : World} {S : Nat → Prop} {r T : Nat} {s : Dk} {fz : Int} {V1 V2 : Value} {sl : List (Int × List UInt8 × Bool)} (h : RRep w S r T s fz V1 V2 sl) (f : Int) (fs : Option Nat) (hf : fs = if 0 ≤ f then some f.toNat else none) (hb : -1 ≤ f ∧ f < 9223372036854775808) :
    RRep (w.setCell ⟨r, 3, none⟩ (.int .i64 f)) S r T { s with fuse := fs } f V1 V2 sl :=
  h.turned (fun k _ hk => Below.heap_setCell _ _ _ _ hk) (by simp [World.setCell]) (heap_set h.hd _) hf hb
theorem refOff_any {w : World} {S : Nat → Prop} {r T : Nat} {s : Dk} (h : RefIs w S r T s) : Calls Try.prog 21 #[.pointer (some ⟨r, 0, none⟩)] w fun E w' => E = .returned (.tuple #[]) ∧ RefIs w' S r T s.offed ∧ Turns S w w' := by
  have hS := h.here
  obtain ⟨fz, V1, V2, sl, h⟩ := h
  obtain ⟨c0, c1, c2, c3⟩ := h.cells
  have f2 := free_block h.hd 2
  have f3 := free_block h.hd 3
  have HR := Lib.hid h
  clear h c0 c1
  go_enter Try.func21, Try.ntmps21
  go_wp2
  exact bodyPost_end (results_none rfl _ _ _) rfl ⟨rfl, ⟨_, _, _, _, HR.out.set23 true (-1) none rfl (by omega)⟩, (turns_cell hS _ _).trans (turns_cell hS _ _)⟩
theorem burns_any {w : World} {S : Nat → Prop} {r T : Nat} {s : Dk} (h : RefIs w S r T s) : Calls Try.prog 30 #[.pointer (some ⟨r, 0, none⟩)] w fun E w' => E = .returned (.bool (decide (s.burn.2 ≠ 0))) ∧ RefIs w' S r T s.burn.1 ∧ Turns S w w' := by
  have hS := h.here
  have HO := Lib.hid (refOff_any h)
  have H := Lib.hid h
  obtain ⟨fz, V1, V2, sl, h⟩ := h
  obtain ⟨c0, c1, c2, c3⟩ := h.cells
  have f3 := free_block h.hd 3
  have hf := h.fuse
  have hb := h.bound
  have HR := Lib.hid h
  clear h c0 c1 c2
  by_cases h0 : fz = 0
  · subst h0
    have e : s.burn = (s.offed, 8) := by
      have : s.fuse = some 0 := hf
      simp only [Dk.burn, this]
      rfl
    rw [e]
    clear e hf
    go_enter Try.func30, Try.ntmps30
    go_wp2_with (first | (go_at_call 21; refine HO.out.mono ?_; rintro E w1 ⟨rfl, h1, h2⟩))
    go_ret
    exact ⟨rfl, h1, h2⟩
  · by_cases hp : 0 < fz
    · have e : s.burn = ({ s with fuse := some (fz - 1).toNat }, 0) := by
        obtain ⟨m, rfl⟩ : ∃ m : Nat, fz = m + 1 := ⟨(fz - 1).toNat, by omega⟩
        have : s.fuse = some (m + 1) := by rw [hf, if_pos (by omega)]; congr 1
        simp only [Dk.burn, this]
        congr 2
        simp
      rw [e]
      clear e hf
      go_enter Try.func30, Try.ntmps30
      go_wp2
      go_ret
      exact ⟨rfl, ⟨_, _, _, _, HR.out.set3 (fz - 1) _ (by rw [if_pos (by omega)]) (by omega)⟩, turns_cell hS _ _⟩
    · have e : s.burn = (s, 0) := by
        have : s.fuse = none := by rw [hf, if_neg (by omega)]
        simp only [Dk.burn, this]
      rw [e]
      clear e hf
      go_enter Try.func30, Try.ntmps30
      go_wp2
      go_ret
      exact ⟨rfl, H.out, Turns.refl _ _⟩
end Go.Proofs.Ythbbghkefekhfaa
