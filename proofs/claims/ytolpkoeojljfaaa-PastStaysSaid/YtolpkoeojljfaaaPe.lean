/-
  What is proved: Change, and entering a view. Conditions as stated.
-/
import Derived.Test.YtolpkoeojljfaaaPd
namespace Go.Proofs.Ytolpkoeojljfaaa
open Go.RowKit
set_option maxRecDepth 100000

def chg (p : MPast) (v : Nat) : Bool × MPast := if p.great < v ∧ v < 1073741824 then (true, ⟨p.L, v⟩) else (false, p)
theorem MPast.Ok.chg {p : MPast} (h : p.Ok) {v : Nat} (h1 : p.great < v) (h2 : v < 1073741824) : (⟨p.L, v⟩ : MPast).Ok :=
  ⟨h.rise, fun q hq => ⟨Nat.le_trans (h.le q hq).1 (Nat.le_of_lt h1), (h.le q hq).2⟩, h2⟩
/-- The greatest view anew. -/
theorem pa_great {v W : World} {os : List Thing} {b : Nat} {rv : Value} {mb : Option Nat} {p : MPast} (H : Fr v W (paT b rv mb p :: os)) {x : Nat} (ok : (⟨p.L, x⟩ : MPast).Ok) :
    Fr v (W.setCell ⟨b, 2, none⟩ (.int .u64 (x : Int))) (paT b rv mb ⟨p.L, x⟩ :: os) := by
  have h : PastAt W b rv mb p := H.hd
  obtain ⟨a1, a2⟩ := h.apart
  refine H.turn (o' := paT b rv mb ⟨p.L, x⟩) (Own.same ((Turns.refl _ W).setCell (.inl (.inl rfl)) 2 _)) ⟨heap_set h.top _, ownsRow_kept h.row fun k e => Below.heap_setCell W ⟨b, 2, none⟩ _ k (a2 k e), ?_, ok⟩ (paT_ok _ _ _ _)
  rcases h.mp with h1 | ⟨k, h1, h2⟩
  · exact .inl h1
  · exact .inr ⟨k, h1, mapU_kept h2 (Below.heap_setCell W ⟨b, 2, none⟩ _ k (a1 k h1).1)⟩
theorem change_any {v W : World} {os : List Thing} {b : Nat} {rv : Value} {mb : Option Nat} {p : MPast} (H : Fr v W (paT b rv mb p :: os)) {x : Nat} (hx : x < 18446744073709551616) :
    Calls Try.prog 17 #[.pointer (some ⟨b, 0, none⟩), .int .u64 (x : Int)] W fun E W' => E = .returned (.bool (chg p x).1) ∧ Fr v W' (paT b rv mb (chg p x).2 :: os) := by
  have h : PastAt W b rv mb p := H.hd
  obtain ⟨_, _, c2⟩ := h.cells
  have f2 := h.free 2
  have HH := Lib.hid H
  by_cases h1 : p.great < x
  · by_cases h2 : x < 1073741824
    · rw [chg, if_pos ⟨h1, h2⟩]
      have H2 := Lib.hid (pa_great H (h.ok.chg h1 h2))
      clear H h
      go_enter Try.func17, Try.ntmps17
      go_wp2
      go_ret
      exact ⟨rfl, H2.out⟩
    · rw [chg, if_neg (by omega)]
      clear H h
      go_enter Try.func17, Try.ntmps17
      go_wp2
      go_ret
      exact ⟨rfl, HH.out⟩
  · rw [chg, if_neg (by omega)]
    clear H h
    go_enter Try.func17, Try.ntmps17
    go_wp2
    go_ret
    exact ⟨rfl, HH.out⟩
theorem change_nil (W : World) (x : Int) : Calls Try.prog 17 #[.pointer none, .int .u64 x] W fun E W' => E = .returned (.bool false) ∧ W = W' := by
  go_enter Try.func17, Try.ntmps17
  go_wp2
  go_ret
  exact ⟨rfl, rfl⟩

/-! ### a view is entered -/
/-- A past of no map, or of one. -/
def Fresh (p : MPast) (x : Nat) : Prop := vot p.L x = none
theorem pa_made {v W : World} {os : List Thing} {b : Nat} {rv : Value} {p : MPast} (H : Fr v W (paT b rv none p :: os)) : Fr v ((W.alloc (.map #[] 0)).setCell ⟨b, 1, none⟩ (.map (some W.heap.size))) (paT b rv (some W.heap.size) p :: os) := by
  have h : PastAt W b rv none p := H.hd
  obtain ⟨a1, a2⟩ := h.apart
  have hb : b < W.heap.size := (Array.getElem?_eq_some_iff.1 h.top).1
  have hk : ∀ k, k < W.heap.size → k ≠ b → ((W.alloc (.map #[] 0)).setCell ⟨b, 1, none⟩ (.map (some W.heap.size))).heap[k]? = W.heap[k]? := fun k hk hn =>
    (Below.heap_setCell (W.alloc (.map #[] 0)) ⟨b, 1, none⟩ (.map (some W.heap.size)) k hn).trans (heap_alloc_old W _ hk)
  have e0 : p.L = [] := by
    rcases h.mp with ⟨_, e⟩ | ⟨k, e, _⟩
    · exact e
    · cases e
  refine H.turn (o' := paT b rv (some W.heap.size) p) ⟨((Turns.refl _ W).alloc _).setCell (.inl (.inl rfl)) 1 _, fun k hk => ?_⟩ ⟨?_, ownsRow_kept h.row fun k e => hk k (ownsRow_lt h.row k e) (a2 k e), .inr ⟨_, rfl, ?_⟩, h.ok⟩ (paT_ok _ _ _ _)
  · rcases hk with rfl | hk | hk
    · exact .inl (.inl rfl)
    · injection hk with hk; exact .inr (by omega)
    · exact .inl (.inr (.inr hk))
  · exact heap_set (C := paC rv none p.great) ((heap_alloc_old W _ hb).trans h.top) _
  · have := mapU_made W
    rw [e0, show vP [] = fun _ => none by funext x; simp [vP, vot]]
    exact mapU_kept (w := W.alloc (.map #[] 0)) this (Below.heap_setCell (W.alloc (.map #[] 0)) ⟨b, 1, none⟩ _ _ (by show ¬ W.heap.size = b; omega))
/-- Its row, its map and its greatest view, each by itself, while a view is entered. -/
structure MidAt (W : World) (b : Nat) (rv : Value) (k : Nat) (g : Nat) (l : List Nat) (n : Nat) (f : Int → Option Value) : Prop where
  top : W.heap[b]? = some (.cells (paC rv (some k) g).toArray 52 (0, 0))
  row : W.ownsRow 0 23 1 rv l.length (nv .u64 l)
  mp : World.mapU W k n f
def mdT (b : Nat) (rv : Value) (k : Nat) (g : Nat) (l : List Nat) (n : Nat) (f : Int → Option Value) : Thing := ⟨fun W => MidAt W b rv k g l n f, OnP b rv (some k)⟩
theorem mdT_ok (b : Nat) (rv : Value) (k : Nat) (g : Nat) (l : List Nat) (n : Nat) (f : Int → Option Value) : (mdT b rv k g l n f).Ok := by
  refine ⟨fun W W' (h : MidAt W b rv k g l n f) hk => ⟨(hk b (.inl rfl)).trans h.top, ownsRow_kept h.row fun k e => hk k (.inr (.inr e)), mapU_kept h.mp (hk k (.inr (.inl rfl)))⟩, fun W (h : MidAt W b rv k g l n f) j hj => ?_⟩
  rcases hj with rfl | hj | hj
  · exact (Array.getElem?_eq_some_iff.1 h.top).1
  · injection hj with hj; rw [← hj]; exact mapU_lt h.mp
  · exact ownsRow_lt h.row j hj
theorem MidAt.apart {W : World} {b : Nat} {rv : Value} {k g : Nat} {l : List Nat} {n : Nat} {f : Int → Option Value} (h : MidAt W b rv k g l n f) : k ≠ b ∧ rv.ownBlock ≠ some k ∧ ∀ j, rv.ownBlock = some j → j ≠ b := by
  obtain ⟨es, c, h3⟩ := mapU_block h.mp
  refine ⟨fun x => ?_, fun x => ?_, fun j e x => ?_⟩
  · have := h.top; rw [← x, h3] at this; injection this with this; cases this
  · obtain ⟨C, h4⟩ := ownsRow_block h.row k x
    rw [h3] at h4; injection h4 with h4; cases h4
  · obtain ⟨C, h4⟩ := ownsRow_block h.row j e
    have := h.top
    rw [← x, h4] at this
    simp at this
theorem md_of {v W : World} {os : List Thing} {b : Nat} {rv : Value} {k : Nat} {p : MPast} (H : Fr v W (paT b rv (some k) p :: os)) : Fr v W (mdT b rv k p.great (p.L.map (·.1)) p.L.length (vP p.L) :: os) := by
  have h : PastAt W b rv (some k) p := H.hd
  refine H.turn (o' := mdT b rv k p.great (p.L.map (·.1)) p.L.length (vP p.L)) ⟨Turns.refl _ W, fun j hj => .inl hj⟩ ⟨h.top, by rw [List.length_map]; exact h.row, ?_⟩ (mdT_ok _ _ _ _ _ _ _)
  rcases h.mp with ⟨e, _⟩ | ⟨k', e, h2⟩
  · cases e
  · injection e with e; rw [e]; exact h2
theorem pa_of {v W : World} {os : List Thing} {b : Nat} {rv : Value} {k : Nat} {p : MPast} {f : Int → Option Value} (H : Fr v W (mdT b rv k p.great (p.L.map (·.1)) p.L.length f :: os)) (hf : f = vP p.L) (ok : p.Ok) : Fr v W (paT b rv (some k) p :: os) := by
  have h : MidAt W b rv k p.great (p.L.map (·.1)) p.L.length f := H.hd
  exact H.turn (o' := paT b rv (some k) p) ⟨Turns.refl _ W, fun j hj => .inl hj⟩ ⟨h.top, by have := h.row; rwa [List.length_map] at this, .inr ⟨k, rfl, hf ▸ h.mp⟩, ok⟩ (paT_ok _ _ _ _)
theorem md_great {v W : World} {os : List Thing} {b : Nat} {rv : Value} {k g : Nat} {l : List Nat} {n : Nat} {f : Int → Option Value} (H : Fr v W (mdT b rv k g l n f :: os)) (x : Nat) :
    Fr v (W.setCell ⟨b, 2, none⟩ (.int .u64 (x : Int))) (mdT b rv k x l n f :: os) := by
  have h : MidAt W b rv k g l n f := H.hd
  obtain ⟨a1, a2, a3⟩ := h.apart
  exact H.turn (o' := mdT b rv k x l n f) (Own.same ((Turns.refl _ W).setCell (.inl (.inl rfl)) 2 _)) ⟨heap_set h.top _, ownsRow_kept h.row fun j e => Below.heap_setCell W ⟨b, 2, none⟩ _ j (a3 j e), mapU_kept h.mp (Below.heap_setCell W ⟨b, 2, none⟩ _ k a1)⟩ (mdT_ok _ _ _ _ _ _ _)
theorem md_put {v W : World} {os : List Thing} {b : Nat} {rv : Value} {k g : Nat} {l : List Nat} {n : Nat} {f : Int → Option Value} (H : Fr v W (mdT b rv k g l n f :: os)) (hn : n ≤ 2000000000) {x : Nat} (hx : x < 18446744073709551616) (val : Value) :
    ∃ W', (Instr.mapUpdate 50 (.map (some k)) (.int .u64 (x : Int)) val).run Try.prog W = .ok () W' ∧ Fr v W' (mdT b rv k g l (if (f (x : Int)).isSome then n else n + 1) (upd f (x : Int) (some val)) :: os) := by
  have h : MidAt W b rv k g l n f := H.hd
  obtain ⟨a1, a2, a3⟩ := h.apart
  obtain ⟨W', r1, r2, r3⟩ := mapU_update h.mp hn (u64_of (x := (x : Int)) (by omega)) val
  have hb : b < W.heap.size := (Array.getElem?_eq_some_iff.1 h.top).1
  exact ⟨W', r1, H.turn (o' := mdT b rv k g l (if (f (x : Int)).isSome then n else n + 1) (upd f (x : Int) (some val))) (Own.same ((Turns.refl _ W).grown r3 fun j e => by cases e; exact .inl (.inr (.inl rfl))))
    ⟨(r3.block b hb fun e => a1 (Option.some.inj e).symm).trans h.top, ownsRow_kept h.row fun j e => r3.block j (ownsRow_lt h.row j e) fun x => a2 (by rw [e, x]), r2⟩ (mdT_ok _ _ _ _ _ _ _)⟩
/-- A row that grew is put in its place. -/
theorem md_row {v W : World} {os : List Thing} {b : Nat} {rv : Value} {k g : Nat} {l : List Nat} {n : Nat} {f : Int → Option Value} (H : Fr v W (mdT b rv k g l n f :: os)) (ty : TypeId) (gb : Nat) (x : Nat) (hg : W.cell? ⟨gb, 0, none⟩ = some (.int .u64 (x : Int))) (hl : l.length ≤ 2000000000) :
    ∃ rv' W', (Builtin.append_ #[39, 39] ty #[rv, .slice (some ⟨gb, 0, none⟩) 1 1]).run Try.prog W = .ok rv' W' ∧ W'.frozen? ⟨b, 0, none⟩ = false ∧ (∃ c, W'.cell? ⟨b, 0, none⟩ = some c) ∧ Fr v (W'.setCell ⟨b, 0, none⟩ rv') (mdT b rv' k g (l ++ [x]) n f :: os) := by
  have h : MidAt W b rv k g l n f := H.hd
  obtain ⟨a1, a2, a3⟩ := h.apart
  have hb : b < W.heap.size := (Array.getElem?_eq_some_iff.1 h.top).1
  have hk : k < W.heap.size := mapU_lt h.mp
  obtain ⟨i0, h1, h2, h3, h4⟩ := info_parts Try.inf23
  obtain ⟨v', w', hr, hrow, hgr, _, hat⟩ := run_append_own_at (P := Try.prog) W 0 39 ty 23 i0 (.int .u64 0) 1 8 Try.underlying39 h1 h2 h3 h4 rfl (by decide) rv l.length (nv .u64 l) h.row ⟨gb, 0, none⟩ 1 1 [.int .u64 (x : Int)] rfl
    (fun j u hj => by
      have : j = 0 := by have := (List.getElem?_eq_some_iff.1 hj).1; simp at this; omega
      subst this
      simp at hj
      subst hj
      rw [add_at]
      exact hg) (by intro u hu; rw [List.mem_singleton.1 hu]; rfl) (by unfold maxLen; omega) (by omega) (Nat.zero_le _)
  have hbt : w'.heap[b]? = some (.cells (paC rv (some k) g).toArray 52 (0, 0)) := (hgr.block b hb fun e => a3 b e.symm rfl).trans h.top
  have hn' : ∀ j, v'.ownBlock = some j → j ≠ b := fun j hj x => by
    rcases hat with e | e
    · rw [e] at hj; exact a3 j hj x
    · rw [e] at hj; injection hj with hj; omega
  refine ⟨v', w', hr, free_block hbt 0, ⟨_, block_cell hbt 0 _ rfl⟩, H.turn (o' := mdT b v' k g (l ++ [x]) n f) ⟨((Turns.refl _ W).grown hgr fun j e => .inl (.inr (.inr e))).setCell (.inl (.inl rfl)) 0 _, fun j hj => ?_⟩ ⟨heap_set hbt _, ?_, ?_⟩ (mdT_ok _ _ _ _ _ _ _)⟩
  · rcases hj with rfl | hj | hj
    · exact .inl (.inl rfl)
    · exact .inl (.inr (.inl hj))
    · rcases hat with e | e
      · exact .inl (.inr (.inr (e.symm.trans hj)))
      · rw [e] at hj; injection hj with hj; exact .inr (Nat.le_of_eq hj)
  · refine ownsRow_kept (W := w') ?_ fun j e => Below.heap_setCell w' ⟨b, 0, none⟩ _ j (hn' j e)
    rw [nv_app, List.length_append]
    exact hrow
  · exact mapU_kept h.mp ((Below.heap_setCell w' ⟨b, 0, none⟩ _ k a1).trans (hgr.block k hk (Ne.symm a2)))
end Go.Proofs.Ytolpkoeojljfaaa
