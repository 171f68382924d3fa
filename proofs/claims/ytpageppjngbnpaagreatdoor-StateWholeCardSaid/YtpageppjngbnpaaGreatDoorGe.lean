/-
  What is proved: rows of bytes of a law's own, read, set and grown. Conditions as stated.
-/
import Derived.Test.YtpageppjngbnpaaGreatDoorGa
namespace Go.Proofs.YtpageppjngbnpaaGreatDoor
open Go.RowKit
set_option maxRecDepth 100000

def rowT (g c : Nat) (l : List UInt8) : Thing := ⟨fun W => W.ownsRow 0 5 1 (.slice (some ⟨g, 0, none⟩) l.length c) l.length (Sh.u8s l), fun k => k = g⟩
theorem rowT_ok (g c : Nat) (l : List UInt8) : (rowT g c l).Ok := by
  refine ⟨fun _ _ h hk _ => ownsRow_kept h fun k e => hk k ?_, fun _ h k hk => ownsRow_lt h k ?_⟩
  · injection e with e; exact e.symm
  · cases hk; rfl
theorem rowT_bs {W : World} {g c : Nat} {l : List UInt8} (h : (rowT g c l).P W) : Bs W (some ⟨g, 0, none⟩) l c := bs_of_own h
theorem own_some {W : World} {B c : Nat} {A : Option Addr} {l : List UInt8} (h : W.ownsRow B 5 1 (.slice A l.length c) l.length (Sh.u8s l)) (hl : l ≠ []) : ∃ g, A = some ⟨g, 0, none⟩ ∧ B ≤ g := by
  rcases h.2 with ⟨e, hn⟩ | ⟨g, cap, cur, e, hb, _⟩
  · exact absurd (List.eq_nil_of_length_eq_zero hn) hl
  · injection e with e1 _ _
    exact ⟨g, e1, hb⟩
theorem ownsRow_zero {W : World} {B : Nat} {e : TypeId} {s n : Nat} {v : Value} {xs : List Value} (h : W.ownsRow B e s v n xs) : W.ownsRow 0 e s v n xs := by
  obtain ⟨h1, h2⟩ := h
  refine ⟨h1, ?_⟩
  rcases h2 with h2 | ⟨g, cap, cur, rfl, _, b⟩
  · exact .inl h2
  · exact .inr ⟨g, cap, cur, rfl, Nat.zero_le _, b⟩
/-- A state's bytes as a row of the law's own. -/
theorem bytes_row {w W : World} {os : List Thing} {s t g : Nat} {r : Option Nat} {c : Nat} {S : MSt} (H : Fr w W (stT s t g r c S :: os)) (hl : (stB S).length < 60000000000000) (hne : stB S ≠ []) :
    Calls Tryz.prog 13 #[.pointer (some ⟨s, 0, none⟩)] W fun E W' => ∃ g' c', E = .returned (.slice (some ⟨g', 0, none⟩) (stB S).length c') ∧ Fr w W' (rowT g' c' (stB S) :: stT s t g r c S :: os) := by
  refine (bytes_any H.hd H.ksW hl).mono fun E W' hx => ?_
  obtain ⟨A, c', he, ho, hb⟩ := hx
  obtain ⟨g', rfl, hg⟩ := own_some ho hne
  exact ⟨g', c', he, H.add (o := rowT g' c' (stB S)) hb (ownsRow_zero ho) (rowT_ok _ _ _) fun k hk => by cases hk; exact hg⟩
theorem row_new {w W : World} {os : List Thing} (H : Fr w W os) : Fr w (W.alloc (.cells #[] 5)) (rowT W.heap.size 0 [] :: os) :=
  H.add ((Below.refl _ _).alloc (Nat.le_refl _) _) (ownsRow_zero (Sh.own_none W W.heap.size rfl)) (rowT_ok _ _ _) fun k hk => by cases hk; exact Nat.le_refl _
theorem row_app {w W W' : World} {os : List Thing} {g c c' : Nat} {A' : Option Addr} {l d : List UInt8} (H : Fr w W (rowT g c l :: os)) (ho : W'.ownsRow 0 5 1 (.slice A' (l ++ d).length c') (l ++ d).length (Sh.u8s (l ++ d))) (hg : W.grownBy W' (some g))
    (hat : Value.ownBlock (.slice A' (l ++ d).length c') = some g ∨ Value.ownBlock (.slice A' (l ++ d).length c') = some W.heap.size) (hne : l ++ d ≠ []) : ∃ g', A' = some ⟨g', 0, none⟩ ∧ Fr w W' (rowT g' c' (l ++ d) :: os) := by
  obtain ⟨g', rfl, _⟩ := own_some ho hne
  refine ⟨g', rfl, H.turn (o' := rowT g' c' (l ++ d)) ⟨(Turns.refl _ W).grown hg fun k e => by cases e; exact .inl rfl, fun k hk => ?_⟩ ho (rowT_ok _ _ _)⟩
  cases hk
  rcases hat with e | e
  · injection e with e; exact .inl e
  · injection e with e; exact .inr (by have e : g' = W.heap.size := e; show W.heap.size ≤ g'; omega)
theorem row_set {w W : World} {os : List Thing} {g c : Nat} {l : List UInt8} (H : Fr w W (rowT g c l :: os)) {j : Nat} (hj : j < l.length) (x : UInt8) :
    Fr w (W.setCell ⟨g, j, none⟩ (.int .u8 (x.toNat : Int))) (rowT g c (l.set j x) :: os) ∧ (∃ v, W.cell? ⟨g, j, none⟩ = some v) ∧ W.frozen? ⟨g, j, none⟩ = false := by
  have h := H.hd
  rcases h.2 with ⟨e, hn⟩ | ⟨g', cap, cur, e, hb, hc, h1, h2, h3, h4⟩
  · omega
  · injection e with e1 e2 e3
    injection e1 with e1
    injection e1 with e1 _
    subst e1
    have hcl : W.heap[g]? = some (.cells cur.toList.toArray 5 (0, 0)) := by simpa using hc
    have hjc : j < cur.toList.length := by simp; omega
    refine ⟨H.turn (o' := rowT g c (l.set j x)) (Own.same (Turns.setCell (S := (rowT g c l).F) (Turns.refl _ W) (.inl rfl) j _)) ?_ (rowT_ok _ _ _), ⟨_, block_cell hcl j _ (List.getElem?_eq_getElem hjc)⟩, free_block hcl j⟩
    have hs := heap_set (k := j) hcl (.int .u8 (x.toNat : Int))
    have hl : (l.set j x).length = l.length := List.length_set
    show World.ownsRow _ 0 5 1 (.slice (some ⟨g, 0, none⟩) (l.set j x).length c) (l.set j x).length (Sh.u8s (l.set j x))
    rw [hl]
    refine ⟨by simp [Sh.u8s], .inr ⟨g, cap, _, by rw [e3], hb, hs, h1, h2, by simpa using h3, ?_⟩⟩
    rw [show (cur.toList.set j (Value.int .u8 (x.toNat : Int))).toArray.toList = cur.toList.set j (.int .u8 (x.toNat : Int)) from rfl, List.take_set, h4]
    simp [Sh.u8s, List.map_set]
end Go.Proofs.YtpageppjngbnpaaGreatDoor
