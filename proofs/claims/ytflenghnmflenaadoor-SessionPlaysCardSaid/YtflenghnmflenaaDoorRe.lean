/-
  What is proved: the document's own ledger: a first key's value set; a key taken away. Conditions as stated.
-/
import Derived.Test.YtflenghnmflenaaDoorRd
import Derived.Laws.AppendOwnNone
namespace Go.Proofs.YtflenghnmflenaaDoor
open Go.RowKit
set_option maxRecDepth 100000

set_option maxHeartbeats 8000000 in
theorem rset_first {w : World} {g : Nat} (h : RL w g none 0 []) (k v : ByteArray) :
    Calls Tryd.prog 37 #[.pointer (some ⟨g, 0, none⟩), .string k, .string v] w fun E w' => E = .returned (.tuple #[]) ∧ ∃ r' c', RL w' g r' c' (setK [] k v) ∧ Own w (On g none) w' (On g r') := by
  have HF := Lib.hid (rfind_any h (by simp) k)
  have HL := Lib.hid h
  have hp0 : posOf ([] : List It) k = 0 := rfl
  have hz0 : hasK ([] : List It) k = false := rfl
  rw [hp0, hz0] at HF
  have H1 := Lib.hid (pC_one (k, v))
  have HEnd : Hid (∀ v4 W, W.ownsRow w.heap.size 64 2 v4 (0 + 1) ([] ++ pC (k, v)) → Below w.heap.size w W → ∃ r' c', v4 = .slice (slA r') 1 c' ∧ ∃ r2 c2, RL (W.setCell ⟨g, 0, none⟩ (.slice (slA r') 1 c')) g r2 c2 (setK [] k v) ∧ Own w (On g none) (W.setCell ⟨g, 0, none⟩ (.slice (slA r') 1 c')) (On g r2)) := Lib.hid fun v4 W ho hb => by
    have hs : setK [] k v = [(k, v)] := rfl
    rw [hs]
    obtain ⟨r', c', he, _, _⟩ := rw_of_own (xs := [(k, v)]) ho
    refine ⟨r', c', he, ?_⟩
    have he' : v4 = .slice (slA r') 1 c' := he
    rw [← he']
    exact rset_fin (ys := [(k, v)]) HL.out ho hb
  clear h hp0 hz0
  go_enter Tryd.func37, Tryd.ntmps37
  go_wp2_with (go_at_call 38; refine HF.out.mono ?_)
  rintro E w1 ⟨rfl, b1⟩
  have cg : w1.cell? ⟨g, 0, none⟩ = some (.slice none 0 0) := (HL.out.below b1).cell
  have HO2 : Hid ((w1.alloc (.cells #[.string k, .string v] 64)).ownsRow w.heap.size 64 2 (.slice none 0 0) 0 []) := Lib.hid (World.ownsRow_nil _ _ _ _)
  have HB3 : Hid (Below w.heap.size w (w1.alloc (.cells #[.string k, .string v] 64))) := Lib.hid (b1.alloc b1.size _)
  have HV : Hid (∀ j u, (pC (k, v))[j]? = some u → (w1.alloc (.cells #[.string k, .string v] 64)).cell? ((⟨w1.heap.size, 0, none⟩ : Addr).add j) = some u) := Lib.hid fun j u hj => by
    rw [Addr.add_lit, Nat.zero_add]
    exact block_cell (C := pC (k, v)) (t := 64) (heap_alloc_new w1 (.cells (pC (k, v)).toArray 64)) j u hj
  clear b1 HF
  go_wp2_with (first
    | (at_builtin
       refine wpList_app rfl _ _ rfl rfl HO2.out HB3.out ⟨w1.heap.size, 0, none⟩ 1 1 (pC (k, v)) rfl rfl HV.out H1.out (by omega) ?_
       intro v2 w3 hown hb4
       obtain ⟨r', c', rfl, hX⟩ := HEnd.out v2 w3 hown hb4
       have HX := Lib.hid hX
       have ht4 : w3.heap[g]? = some (.cells #[.slice none 0 0] 45 (0, 0)) := (hb4.block g HL.out.lt).trans HL.out.top
       have cg2 : w3.cell? ⟨g, 0, none⟩ = some (.slice none 0 0) := (HL.out.below hb4).cell
       have fz4 : w3.frozen? ⟨g, 0, none⟩ = false := free_block ht4 0
       have HO5 : Hid (w3.ownsRow w.heap.size 64 2 (.slice (slA r') 1 c') (0 + 1) ([] ++ pC (k, v))) := Lib.hid hown
       clear hX hown hb4 HO2 HB3 HV ht4)
    | (at_builtin
       obtain ⟨i0, hi0, hz0, hzs, hzb⟩ := info_parts Tryd.info64
       refine wpList_append_own_none rfl _ _ 43 rfl w.heap.size 64 i0 2 Tryd.underlying43 hi0 _ _ _ rfl HO5.out rfl ?_
       clear hi0 hz0 hzs hzb HO5))
  go_end0
  exact ⟨rfl, HX.out⟩
theorem rset_any {w : World} {g : Nat} {r : Option Nat} {c : Nat} {xs : List It} (h : RL w g r c xs) (hn : xs.length ≤ 1000) (k v : ByteArray) :
    Calls Tryd.prog 37 #[.pointer (some ⟨g, 0, none⟩), .string k, .string v] w fun E w' => E = .returned (.tuple #[]) ∧ ∃ r' c', RL w' g r' c' (setK xs k v) ∧ Own w (On g r) w' (On g r') := by
  cases r with
  | some b => exact rset_some h hn k v
  | none =>
    obtain ⟨rfl, rfl⟩ := h.row
    exact rset_first h k v
end Go.Proofs.YtflenghnmflenaaDoor
