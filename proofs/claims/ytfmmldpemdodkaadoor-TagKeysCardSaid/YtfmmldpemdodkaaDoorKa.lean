/-
  What is proved: what lies in memory while TagKeys lays its rows and keys. Conditions as stated.
-/
import Derived.Test.YtfmmldpemdodkaaDoorWf
import Derived.Test.YtfmmldpemdodkaaDoorGb
namespace Go.Proofs.YtfmmldpemdodkaaDoor
open Go.RowKit

theorem own_below {w w' : World} {B n : Nat} {e : TypeId} {v : Value} {xs : List Value} (h : w.ownsRow B e 1 v n xs) (hb : Below w.heap.size w w') : w'.ownsRow B e 1 v n xs :=
  h.kept (gb_below hb none) (by cases v.ownBlock <;> simp)

/-- Two rows, byte by byte, each with its mask. -/
structure InAt (fk : List UInt8) (j c1 c2 : Nat) (A1 A2 : Option Addr) (w wr : World) : Prop where
  bel : Below w.heap.size w wr
  o1 : wr.ownsRow w.heap.size 5 1 (.slice A1 j c1) j (u8s (maskOf 0x36 (fk.take j)))
  s1 : Sl A1 j c1
  o2 : wr.ownsRow w.heap.size 5 1 (.slice A2 j c2) j (u8s (maskOf 0x5c (fk.take j)))
  s2 : Sl A2 j c2
  z : j = 0 → A1 = none ∧ A2 = none

theorem mask_first (m : UInt8) (fk : List UInt8) (j : Nat) (h0 : 0 < j) (hf : 0 < fk.length) : (maskOf m (fk.take j))[0]? = some (fk.getD 0 0 ^^^ m) := by
  cases fk with
  | nil => simp at hf
  | cons a r =>
    cases j with
    | zero => omega
    | succ j => simp [maskOf]
theorem xor_ne (a : UInt8) : a ^^^ 0x36 ≠ a ^^^ 0x5c := fun h => by
  have h2 := congrArg (fun z => a ^^^ z) h
  simp only [← UInt8.xor_assoc, UInt8.xor_self, UInt8.zero_xor] at h2
  exact absurd h2 (by decide)
theorem mask_take (m : UInt8) (fk : List UInt8) (j : Nat) (h : j < fk.length) : maskOf m (fk.take (j + 1)) = maskOf m (fk.take j) ++ [fk.getD j 0 ^^^ m] := by
  rw [List.take_add_one, List.getElem?_eq_getElem h]
  simp only [maskOf, List.map_append, Option.toList_some, List.map_cons, List.map_nil, List.getD_eq_getElem?_getD, List.getElem?_eq_getElem h, Option.getD_some]

theorem InAt.apart {fk : List UInt8} {j c1 c2 : Nat} {A1 A2 : Option Addr} {w wr : World} (H : InAt fk j c1 c2 A1 A2 w wr) (hf : 0 < fk.length) : (Value.slice A2 j c2).ownBlock = none ∨ (Value.slice A2 j c2).ownBlock ≠ (Value.slice A1 j c1).ownBlock := by
  rcases Nat.eq_zero_or_pos j with h | h
  · left
    rw [(H.z h).2]
    rfl
  · exact .inr (Ne.symm (own_differ H.o1 H.o2 (mask_first _ fk j h hf) (mask_first _ fk j h hf) (xor_ne _)))
/-- Behind the first append: the first row has grown, the second one is as it was. -/
structure MidAt (fk : List UInt8) (j c1 c2 : Nat) (A1 A2 : Option Addr) (w wr : World) : Prop where
  bel : Below w.heap.size w wr
  o1 : wr.ownsRow w.heap.size 5 1 (.slice A1 (j + 1) c1) (j + 1) (u8s (maskOf 0x36 (fk.take (j + 1))))
  s1 : Sl A1 (j + 1) c1
  o2 : wr.ownsRow w.heap.size 5 1 (.slice A2 j c2) j (u8s (maskOf 0x5c (fk.take j)))
  z : j = 0 → A2 = none
theorem InAt.mid {fk : List UInt8} {j c1 c2 c1' : Nat} {A1 A2 A1' : Option Addr} {w wr w' : World} (H : InAt fk j c1 c2 A1 A2 w wr) (hj : j < fk.length)
    (h1 : w'.ownsRow w.heap.size 5 1 (.slice A1' (j + 1) c1') (j + 1) (u8s (maskOf 0x36 (fk.take j) ++ [fk.getD j 0 ^^^ 0x36])) ∧ Sl A1' (j + 1) c1') (hg : wr.grownBy w' (Value.slice A1 j c1).ownBlock) : MidAt fk j c1' c2 A1' A2 w w' :=
  ⟨H.bel.grown hg H.bel.size fun k hk => (H.o1.lt k hk).1, by rw [mask_take _ _ _ hj]; exact h1.1, h1.2, H.o2.kept hg (H.apart (by omega)), fun h => (H.z h).2⟩
theorem MidAt.next {fk : List UInt8} {j c1 c2 c2' : Nat} {A1 A2 A2' : Option Addr} {w wr w' : World} (H : MidAt fk j c1 c2 A1 A2 w wr) (hj : j < fk.length)
    (h1 : w'.ownsRow w.heap.size 5 1 (.slice A2' (j + 1) c2') (j + 1) (u8s (maskOf 0x5c (fk.take j) ++ [fk.getD j 0 ^^^ 0x5c])) ∧ Sl A2' (j + 1) c2') (hg : wr.grownBy w' (Value.slice A2 j c2).ownBlock) : InAt fk (j + 1) c1 c2' A1 A2' w w' := by
  refine ⟨H.bel.grown hg H.bel.size fun k hk => (H.o2.lt k hk).1, H.o1.kept hg ?_, H.s1, by rw [mask_take _ _ _ hj]; exact h1.1, h1.2, fun h => by omega⟩
  rcases Nat.eq_zero_or_pos j with h | h
  · rw [H.z h]
    show _ ∨ _ ≠ none
    cases (Value.slice A1 (j + 1) c1).ownBlock <;> simp
  · exact .inr (own_differ H.o1 H.o2 (mask_first _ fk (j + 1) (by omega) (by omega)) (mask_first _ fk j h (by omega)) (xor_ne _))

/-! The keys. -/
def theKeys : List (List UInt8) := (List.range 11).map (fun (i : Nat) => repKey ((i : Int) + 1)) ++ (List.range 8).map (fun (i : Nat) => cliKey ((i : Int) + 1))
def unlike : List (List UInt8) → Bool
  | [] => true
  | x :: r => !(r.contains x) && unlike r
set_option maxRecDepth 1000000 in
theorem keys_unlike : unlike theKeys = true := by kernel_rfl
theorem unlike_at : ∀ (l : List (List UInt8)) (i j : Nat) (x y : List UInt8), unlike l = true → i < j → l[i]? = some x → l[j]? = some y → x ≠ y
  | [], i, j, x, y, _, _, hx, _ => by simp at hx
  | a :: r, 0, j + 1, x, y, h, _, hx, hy => by
    simp [unlike] at h
    simp at hx hy
    subst hx
    intro e
    subst e
    exact h.1 (List.mem_of_getElem? hy)
  | a :: r, i + 1, j + 1, x, y, h, hij, hx, hy => by
    simp [unlike] at h
    simp at hx hy
    exact unlike_at r i j x y h.2 (by omega) hx hy
theorem keys_length : theKeys.length = 19 := rfl
theorem key_rep (k : Nat) (h : k < 11) : theKeys[k]? = some (repKey ((k : Int) + 1)) := by
  rw [theKeys, List.getElem?_append_left (by simp; exact h)]
  simp [h]
theorem key_cli (k : Nat) (h : k < 8) : theKeys[11 + k]? = some (cliKey ((k : Int) + 1)) := by
  rw [theKeys, List.getElem?_append_right (by simp)]
  simp [h]

def keyVal (g : Nat) : Value := .slice (some ⟨g, 0, none⟩) 32 32
/-- So many keys lie there, and a row of them. -/
structure AllAt (k c : Nat) (A : Option Addr) (gs : List Nat) (w wr : World) : Prop where
  bel : Below w.heap.size w wr
  own : wr.ownsRow w.heap.size 22 1 (.slice A k c) k (gs.map keyVal)
  len : gs.length = k
  keys : ∀ (i : Nat) (g : Nat), gs[i]? = some g → ∃ x, theKeys[i]? = some x ∧ Rd (fun _ => True) wr (some ⟨g, 0, none⟩) 32 x
  z : k = 0 → A = none
theorem AllAt.next {k c : Nat} {A : Option Addr} {gs : List Nat} {w wr w' : World} (H : AllAt k c A gs w wr) (hb : Below wr.heap.size wr w') : AllAt k c A gs w w' :=
  ⟨H.bel.trans (hb.mono H.bel.size), own_below H.own hb, H.len, fun i g h => let ⟨x, h1, h2⟩ := H.keys i g h; ⟨x, h1, h2.below hb (fun _ h _ => h)⟩, H.z⟩
theorem AllAt.drewN {k c : Nat} {A : Option Addr} {gs : List Nat} {w wr : World} (H : AllAt k c A gs w wr) (q : Nat) : AllAt k c A gs w (wr.drewN q) :=
  H.next (below_drewN (Below.refl _ _) q)
/-- A key's block is not the row's. -/
theorem row_apart {w : World} {B k c g : Nat} {A : Option Addr} {gs : List Nat} {x : List UInt8} (ho : w.ownsRow B 22 1 (.slice A k c) k (gs.map keyVal)) (hl : gs.length = k) (hz : k = 0 → A = none) (hr : Rd (fun _ => True) w (some ⟨g, 0, none⟩) 32 x) : (Value.slice A k c).ownBlock ≠ some g := by
  intro e
  rcases Nat.eq_zero_or_pos k with h | h
  · rw [hz h] at e
    cases e
  · obtain ⟨g0, hg0⟩ : ∃ g0, gs[0]? = some g0 := ⟨_, List.getElem?_eq_getElem (by omega)⟩
    have c1 := ho.cells e 0 (keyVal g0) (by simp [hg0])
    obtain ⟨b, o, hA, _, _, hc⟩ := hr.2 (by omega)
    injection hA with hA
    injection hA with hA1 hA2
    subst hA1 hA2
    obtain ⟨u, hu⟩ : ∃ u, x[0]? = some u := ⟨_, List.getElem?_eq_getElem (by rw [hr.1]; omega)⟩
    have c2 := hc 0 u hu
    rw [add_lit] at c1
    rw [c1] at c2
    cases c2
/-- A key more. -/
theorem AllAt.add {k c c' g : Nat} {A A' : Option Addr} {gs : List Nat} {x : List UInt8} {w wr w' : World} (H : AllAt k c A gs w wr) (hx : theKeys[k]? = some x) (hr : Rd (fun _ => True) wr (some ⟨g, 0, none⟩) 32 x)
    (ho : w'.ownsRow w.heap.size 22 1 (.slice A' (k + 1) c') (k + 1) (gs.map keyVal ++ [keyVal g])) (hg : wr.grownBy w' (Value.slice A k c).ownBlock) : AllAt (k + 1) c' A' (gs ++ [g]) w w' := by
  refine ⟨H.bel.grown hg H.bel.size fun k hk => (H.own.lt k hk).1, by rw [List.map_append]; exact ho, by rw [List.length_append, H.len]; rfl, fun i b hi => ?_, fun h => by omega⟩
  have move : ∀ (b : Nat) (y : List UInt8), Rd (fun _ => True) wr (some ⟨b, 0, none⟩) 32 y → Rd (fun _ => True) w' (some ⟨b, 0, none⟩) 32 y := fun b y hy => by
    have hne := row_apart H.own H.len H.z hy
    refine ⟨hy.1, fun hn => ?_⟩
    obtain ⟨b', o, hA, hlt, hp, hc⟩ := hy.2 hn
    have hb : b' = b := by injection hA with hA; injection hA with h1 h2; exact h1.symm
    exact ⟨b', o, hA, Nat.lt_of_lt_of_le hlt hg.size, hp, fun j u hu => hg.cell (hc j u hu) (fun e => hne (by rw [← e, hb]))⟩
  by_cases hik : i < gs.length
  · rw [List.getElem?_append_left hik] at hi
    obtain ⟨y, h1, h2⟩ := H.keys i b hi
    exact ⟨y, h1, move b y h2⟩
  · rw [List.getElem?_append_right (by omega)] at hi
    have : i = k := by
      have := (List.getElem?_eq_some_iff.1 hi).1
      simp at this
      have := H.len
      omega
    subst this
    rw [H.len, Nat.sub_self] at hi
    simp at hi
    subst hi
    exact ⟨x, hx, move g x hr⟩

theorem Tryd.infos22 : (Tryd.prog.info? 22).map (fun i => (i.zero, i.size, i.bytes)) = some (some (.slice none 0 0), 1, 24) := by kernel_rfl
theorem own_shape_e {w : World} {B n : Nat} {e : TypeId} {v : Value} {xs : List Value} (h : w.ownsRow B e 1 v n xs) : ∃ A c, v = .slice A n c := by
  rcases h.2 with ⟨rfl, rfl⟩ | ⟨g, cap, cur, rfl, _⟩
  · exact ⟨none, 0, rfl⟩
  · exact ⟨_, cap, rfl⟩
/-- append of one slice onto a row of the call's own. -/
theorem wpList_append_key {wr : World} {ops : Array Oper} {rest : List Oper} {o : Oper} {a : Act} {Q : Exit → Act → World → Prop} (hgd : o.guard = none) (s x : Operand)
    (ho : o.op = Op.call { callee := Callee.builtin Builtin.append, args := #[s, x], argTypes := #[33, 33] })
    (B k : Nat) (v : Value) (us : List Value) (u : Value) (h1 : u.oneCell' = true) (hs : a.eval s = v) (hx : a.eval x = .slice (some ⟨wr.heap.size, 0, none⟩) 1 1)
    (hown : wr.ownsRow B 22 1 v k us) (hB : B ≤ wr.heap.size) (hm : k + 1 ≤ 1000)
    (h : ∀ A' c' w', Hid (w'.ownsRow B 22 1 (.slice A' (k + 1) c') (k + 1) (us ++ [u])) → Hid (wr.grownBy w' v.ownBlock) → wpList Tryd.prog ops Q rest (a.put o.dst (.slice A' (k + 1) c')) w') :
    wpList Tryd.prog ops Q (o :: rest) a (wr.alloc (.cells #[u] 22)) := by
  obtain ⟨i0, hi, hz0, hz1, hz2⟩ := info_parts Tryd.infos22
  refine wpList_append_own _ hgd s x 33 ho B 22 i0 (.slice none 0 0) 1 24 Tryd.underlying33 hi hz0 hz1 hz2 rfl (by decide) v k us hs (hown.alloc _) ⟨wr.heap.size, 0, none⟩ 1 1 [u] hx rfl (cell_one_new _ _ _) (by intro y hy; simp at hy; subst hy; exact h1) (by unfold maxLen; omega) (by omega) (by simp; omega) ?_
  intro v' w' h2 h3 _
  obtain ⟨A', c', rfl⟩ := own_shape_e h2
  exact h A' c' w' (Lib.hid h2) (Lib.hid (gb_trans (World.grownBy_alloc wr _ _) h3))
end Go.Proofs.YtfmmldpemdodkaaDoor
