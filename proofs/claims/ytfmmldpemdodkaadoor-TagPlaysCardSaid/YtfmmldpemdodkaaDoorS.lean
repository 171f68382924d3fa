/-
  What is proved: what the document's Block answers. Conditions as stated.
-/
import Derived.Test.YtfmmldpemdodkaaDoorO
import Derived.Lib.QuietBelow
import Derived.Great.BuildSlice
namespace Go.Proofs.YtfmmldpemdodkaaDoor
open Go.RowKit Go.Sort

theorem Tryd.zero62 : ((Tryd.prog.info? 62).bind (·.zero)).map (·.cells.size) = some (K.map fun x => (x.toNat : Int)).length := by kernel_rfl
theorem k_cells : (K.map fun x => (x.toNat : Int)).map (Value.int .u32) = u32s K := by rw [List.map_map]; rfl
theorem kRef_any (w : World) : Calls Tryd.prog 42 #[] w fun E w' => E = .returned (.agg (u32s K).toArray) ∧ Below w.heap.size w w' := by
  have HI : Hid ((Tryd.prog.info? 62).map (·.size) = some (u32s K).length) := Lib.hid (by rw [u32s_length]; exact Tryd.size62)
  have HT : Hid ((u32s K).length = 64) := Lib.hid (by rw [u32s_length]; rfl)
  go_enter Tryd.func42, Tryd.ntmps42
  go_wp2_with (first
    | (refine wpList_buildFlatArr rfl 62 50 64 _ rfl .u32 (K.map fun x => (x.toNat : Int)) Tryd.underlying62 Tryd.info50 Tryd.zero62 (by kernel_rfl) ?_; rw [k_cells])
    | (refine wpList_store_fresh rfl 62 (.tmp 0) (.tmp 1) rfl (u32s K) rfl rfl HT.out.symm HI.out (u32s_one _) ?_; intro w2 G2))
  exact bodyPost_ret (ret_range rfl rfl G2.out.2.1 Tryd.underlying62 rfl HI.out) rfl ⟨rfl, G2.out.1⟩

theorem zip_comm : ∀ (a b : List UInt32), List.zipWith (· + ·) a b = List.zipWith (· + ·) b a
  | [], b => by cases b <;> rfl
  | _ :: _, [] => rfl
  | x :: a, y :: b => by simp only [List.zipWith_cons_cons, UInt32.add_comm x y, zip_comm a b]
theorem first8_list (h : List UInt32) (hl : h.length = 8) : (first8 h).list = h := by
  match h, hl with
  | [a, b, c, d, e, f, g, h'], _ => rfl

theorem refBlock_any (h : List UInt32) (b : List UInt8) (w : World) (hl : h.length = 8) (hb64 : b.length = 64) :
    Calls Tryd.prog 34 #[.agg (u32s h).toArray, .agg (u8s b).toArray] w fun E w' => E = .returned (.agg (u32s (blockOf h b)).toArray) ∧ Below w.heap.size w w' := by
  have := refBlock_by h K b (sched b) (rnds K (sched b 48) (first8 h)) w hl hb64 (by decide) rfl (fun _ => rfl) (sched_length b) (first8_list h hl) (fun _ => rfl) kRef_any
  rw [zip_comm] at this
  exact this

end Go.Proofs.YtfmmldpemdodkaaDoor
