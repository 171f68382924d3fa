/-
  What is proved: one cell anew; two side by side, and a block beside that is stored into; text of one byte. Conditions as stated.
-/
import Derived.Test.YtflenghnmflenaaDoorSt
import Derived.Test.YtflenghnmflenaaDoorSy
import Derived.Test.YtflenghnmflenaaDoorMc
namespace Go.Proofs.YtflenghnmflenaaDoor
open Go.RowKit
set_option maxRecDepth 100000

theorem wpList_store_at {P : Program} {ops : Array Oper} {rest : List Oper} {op : Oper} {a : Act} {w : World} {Q : Exit → Act → World → Prop} (hgd : op.guard = none) (ty : TypeId) (x y : Operand) (ho : op.op = .store ty x y)
    (g i : Nat) (C : List Value) (t : TypeId) (hC : w.heap[g]? = some (.cells C.toArray t (0, 0))) (hi : i < C.length) (v : Value) (hx : a.eval x = .pointer (some ⟨g, i, none⟩)) (hy : a.eval y = v) (hv : v.cells = #[v]) (h1 : v.oneCell' = true)
    (hsz : (P.info? ty).map (·.size) = some 1)
    (h : ∀ w', Hid (w'.heap[g]? = some (.cells (C.set i v).toArray t (0, 0)) ∧ w.grownBy w' (some g)) → wpList P ops Q rest (a.put op.dst undef) w') : wpList P ops Q (op :: rest) a w := by
  refine wpList_plain hgd fun K hK => ?_
  have ht := there_block hC i 1 (by omega)
  have hr := run_storeCells_cells (P := P) g i [v] 0 w (fun j hj => by simpa using (ht j (by simpa using hj)).1) (fun j hj => by simpa using (ht j (by simpa using hj)).2) (fun u hu => by simp at hu; subst hu; exact h1)
  have h2 := h (w.setCell ⟨g, i, none⟩ v) (Lib.hid ⟨heap_set hC v, ⟨rfl, rfl, rfl, by simp [World.setCell], fun k _ hk => Below.heap_setCell _ _ _ _ (fun e => hk (by rw [e]))⟩⟩)
  unfold Oper.wp execOp
  cases hq : P.info? ty with
  | none => simp [hq] at hsz
  | some i0 =>
    have hs : i0.size = 1 := by simpa [hq] using hsz
    have hst : (storeVar ty ⟨g, i, none⟩ v).run P w = .ok () (w.setCell ⟨g, i, none⟩ v) := by
      simp only [Nat.add_zero] at hr
      simp [storeVar, sizeOf, typeInfo, hq, hv, hs]
      simpa [World.setCells] using hr
    simp only [ho, hx, hy, Instr.storeAt, Instr.sureAddr, Sem.run_bind, Sem.run_pure, Result.andThen_ok, hst]
    exact hK _ _ h2
theorem Sp2.turn {w : World} {t g t2 g2 : Nat} {bs : List Kept} {W W' : World} {T : List Lst} {r : Option Nat} {c : Nat} {xs : List It} {T2 : List Lst} {r2 : Option Nat} {c2 : Nat} {ys : List It} {b : Nat} {C D : Array Value} {ty : TypeId} (H : Sp2 w t g t2 g2 ((b, C, ty) :: bs) W T r c xs T2 r2 c2 ys) (hb : ∀ p ∈ bs, p.1 ≠ b) (hw : w.heap.size ≤ b) (hh : W'.heap[b]? = some (.cells D ty (0, 0))) (hg : W.grownBy W' (some b)) : Sp2 w t g t2 g2 ((b, D, ty) :: bs) W' T r c xs T2 r2 c2 ys :=
  ⟨H.s1.turn hb hw hh hg, H.s2.turn hb hw hh hg, H.dis⟩
theorem text_of_byte (b : UInt8) (W : World) : (convert 62 9 (.slice (some ⟨W.heap.size, 0, none⟩) 1 1)).run Tryd.prog (W.alloc (.cells #[.int .u8 (b.toNat : Int)] 5)) = .ok (.string ⟨#[b]⟩) (W.alloc (.cells #[.int .u8 (b.toNat : Int)] 5)) :=
  run_convert_bytes_back (P := Tryd.prog) (W.alloc (.cells #[.int .u8 (b.toNat : Int)] 5)) 62 9 5 ⟨W.heap.size, 0, none⟩ 1 [b] Tryd.underlying62 Tryd.underlying5 Tryd.underlying9 (fun j hj => by
    obtain rfl : j = 0 := by simpa using hj
    rw [Lib.add_plain]
    simp)
theorem text_two (a b : UInt8) (W : World) : (Op.stringOp .add ⟨#[a]⟩ ⟨#[b]⟩).run Tryd.prog W = .ok (.string ⟨#[a, b]⟩) W := by
  have h := run_string_add (P := Tryd.prog) (w := W) ⟨#[a]⟩ ⟨#[b]⟩ (by show ((1 : Nat) : Int) ≤ _; omega) (by show ((1 : Nat) : Int) ≤ _; omega)
  rw [h]
  rfl
theorem Tryd.one3 : (Tryd.prog.info? 3).map (·.size) = some 1 := by kernel_rfl
theorem Tryd.one9 : (Tryd.prog.info? 9).map (·.size) = some 1 := by kernel_rfl
theorem among_first {xs : List It} (h : Among Ks xs) {p : It} (hp : p ∈ xs) : ∃ a b : UInt8, p.1 = ⟨#[a, b]⟩ := by
  have hk := h p hp
  unfold Ks at hk
  rcases List.mem_append.1 hk with hk | hk
  · obtain ⟨s, _, e⟩ := List.mem_map.1 hk
    exact ⟨_, _, e.symm⟩
  · obtain ⟨s, _, e⟩ := List.mem_map.1 hk
    exact ⟨_, _, e.symm⟩
theorem mine_take {xs : List It} {j : Nat} {p : It} (hp : xs[j]? = some p) : mine isP (xs.take (j + 1)) = mine isP (xs.take j) ++ if isP p.1 then [p] else [] := by
  rw [List.take_add_one, hp, mine, List.filter_append]
  congr 1
  simp [List.filter_cons]
end Go.Proofs.YtflenghnmflenaaDoor
