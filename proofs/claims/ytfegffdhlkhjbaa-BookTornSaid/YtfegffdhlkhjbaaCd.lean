/-
  What is proved: a slot is written, sector by sector. Conditions as stated.
-/
import Derived.Test.YtfegffdhlkhjbaaCc
namespace Go.Proofs.Ytfegffdhlkhjbaa
open Go.RowKit
set_option maxRecDepth 100000
attribute [local go_sem] Oper.semAt_some

/-! ### what stays, more of it -/
theorem keeps_aside {J : List (Nat × Obj) → World → Prop} (K : Keeps J) (q : Nat) (o : Obj) : Keeps (fun M W => (∀ p ∈ M, p.1 ≠ q) ∧ J ((q, o) :: M) W) where
  fresh := fun {L W W' q' o'} h hb hq ho => by
    have hlt := K.toKeep.lt h.2 (List.mem_cons_self ..)
    simp only at hlt
    refine ⟨fun p hp => ?_, K.toKeep.sub (K.toKeep.fresh h.2 hb hq ho) fun p hp => ?_⟩
    · rcases List.mem_cons.1 hp with rfl | hp
      · simp only; omega
      · exact h.1 p hp
    · simp only [List.mem_cons] at hp ⊢
      rcases hp with rfl | rfl | hp
      · exact .inr (.inl rfl)
      · exact .inl rfl
      · exact .inr (.inr hp)
  next := fun h hb => ⟨h.1, K.toKeep.next h.2 hb⟩
  get := fun h hp => K.toKeep.get h.2 (.tail _ hp)
  sub := fun h hs => ⟨fun p hp => h.1 p (hs p hp), K.toKeep.sub h.2 fun p hp => by
    rcases List.mem_cons.1 hp with rfl | hp
    · exact .head _
    · exact .tail _ (hs p hp)⟩
  upd := fun {L W W' q' o1 o2} h hne ho hg => by
    have hqq : q' ≠ q := h.1 _ (List.mem_cons_self ..)
    refine ⟨fun p hp => ?_, K.toKeep.sub (K.upd (q := q') (o := o1) (L := (q, o) :: L) (K.toKeep.sub h.2 fun p hp => ?_) (fun p hp => ?_) ho hg) fun p hp => ?_⟩
    · rcases List.mem_cons.1 hp with rfl | hp
      · exact hqq
      · exact h.1 p (.tail _ hp)
    · simp only [List.mem_cons] at hp ⊢
      rcases hp with rfl | rfl | hp
      · exact .inr (.inl rfl)
      · exact .inl rfl
      · exact .inr (.inr hp)
    · rcases List.mem_cons.1 hp with rfl | hp
      · exact fun e => hqq e.symm
      · exact hne p hp
    · simp only [List.mem_cons] at hp ⊢
      rcases hp with rfl | rfl | hp
      · exact .inr (.inl rfl)
      · exact .inl rfl
      · exact .inr (.inr hp)
theorem keeps_ex {α : Type} {J : α → List (Nat × Obj) → World → Prop} (K : ∀ i, Keeps (J i)) : Keeps (fun M W => ∃ i, J i M W) where
  fresh := fun ⟨i, h⟩ hb hq ho => ⟨i, (K i).toKeep.fresh h hb hq ho⟩
  next := fun ⟨i, h⟩ hb => ⟨i, (K i).toKeep.next h hb⟩
  get := fun ⟨i, h⟩ hp => (K i).toKeep.get h hp
  sub := fun ⟨i, h⟩ hs => ⟨i, (K i).toKeep.sub h hs⟩
  upd := fun ⟨i, h⟩ hne ho hg => ⟨i, (K i).upd h hne ho hg⟩
theorem keeps_and {p : Prop} {J : List (Nat × Obj) → World → Prop} (K : Keeps J) : Keeps (fun M W => p ∧ J M W) where
  fresh := fun h hb hq ho => ⟨h.1, K.toKeep.fresh h.2 hb hq ho⟩
  next := fun h hb => ⟨h.1, K.toKeep.next h.2 hb⟩
  get := fun h hp => K.toKeep.get h.2 hp
  sub := fun h hs => ⟨h.1, K.toKeep.sub h.2 hs⟩
  upd := fun h hne ho hg => ⟨h.1, K.upd h.2 hne ho hg⟩

/-! ### writes, one behind the other -/
/-- What k writes do, sector x + i with what f says: at the first that has an error they end. -/
def wrs (s : Dk) (x : Int) (f : Nat → List UInt8) : Nat → Dk × Int
  | 0 => (s, 0)
  | k + 1 => if (wrs s x f k).2 ≠ 0 then wrs s x f k else (wrs s x f k).1.write (x + k) (f k)
theorem wrs_next {s : Dk} {x : Int} {f : Nat → List UInt8} {k : Nat} (h : (wrs s x f k).2 = 0) : wrs s x f (k + 1) = (wrs s x f k).1.write (x + k) (f k) := by rw [wrs, if_neg (by simp [h])]
theorem wrs_stuck {s : Dk} {x : Int} {f : Nat → List UInt8} {k : Nat} (h : (wrs s x f k).2 ≠ 0) : ∀ j, wrs s x f (k + j) = wrs s x f k
  | 0 => rfl
  | j + 1 => by rw [← Nat.add_assoc, wrs, wrs_stuck h j, if_pos h]

/-- The slice at A reads as the bytes bs while what lay below stays, and the blocks of L. -/
def Src (w : World) (L : List (Nat × Obj)) (A : Option Addr) (n : Nat) (bs : List UInt8) : Prop := ∀ W, Below w.heap.size w W → (∀ p ∈ L, W.heap[p.1]? = some p.2) → Oct.Rd W A n bs
theorem Src.rd {w W : World} {d T : Nat} {s : Dk} {L L' : List (Nat × Obj)} {A : Option Addr} {n : Nat} {bs : List UInt8} (h : Src w L A n bs) (hD : Dat w d T s L' W) (hs : ∀ p ∈ L, p ∈ L') : Oct.Rd W A n bs :=
  h W hD.below fun p hp => hD.get (q := p.1) (o := p.2) (hs p hp)

theorem sectors_any (count : Int) (A : Option Addr) (n c : Nat) (w : World) : Calls Try.prog 58 #[.int .u64 count, .slice A n c] w fun E w' =>
    E = .returned (.func (.func 71) #[] #[.pointer (some ⟨w.heap.size + 1, 0, none⟩), .pointer (some ⟨w.heap.size, 0, none⟩)]) ∧ w' = (w.alloc (.cells #[.int .u64 count] 61)).alloc (.cells #[.slice A n c] 29) := by
  go_enter Try.func58, Try.ntmps58
  go_wp2
  go_ret
  exact ⟨by simp, rfl⟩
end Go.Proofs.Ytfegffdhlkhjbaa
