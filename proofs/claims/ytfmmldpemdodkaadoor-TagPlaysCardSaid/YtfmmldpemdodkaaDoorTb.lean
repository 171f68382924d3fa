/-
  What is proved: what filled and digest of tag answer. Conditions as stated.
-/
import Derived.Test.YtfmmldpemdodkaaDoorTa
import Derived.Test.YtfmmldpemdodkaaDoorX
namespace Go.Proofs.YtfmmldpemdodkaaDoor
open Go.RowKit

theorem heap_new2 (w : World) (o : Obj) (cs : Array Value) (t : TypeId) : ((w.alloc o).alloc (.cells cs t)).heap[w.heap.size + 1]? = some (.cells cs t (0, 0)) := by
  have := heap_alloc_new (w.alloc o) (.cells cs t)
  rw [show (w.alloc o).heap.size = w.heap.size + 1 by simp] at this
  exact this
theorem splice_head (x : List UInt8) : splice (u8s (List.replicate 64 0)) 0 (u8s x) = u8s (x ++ List.replicate (64 - x.length) 0) := by
  unfold splice
  rw [List.take_zero, List.nil_append, u8s_length, Nat.zero_add, u8s_append]
  congr 1
  simp only [u8s, List.map_replicate, List.drop_replicate]
theorem range_of_heap {w : World} {g : Nat} {C : List Value} {t : TypeId} (h : w.heap[g]? = some (.cells C.toArray t (0, 0))) : w.rangeAt g 0 C := fun j v hv => by
  rw [Nat.zero_add, cell_of_row w g j _ t (0, 0) h]
  simpa using hv

set_option maxHeartbeats 400000 in
theorem filled_by {Pr : Nat → Prop} (k d : List UInt8) (A : Option Addr) (c : Nat) (w : World) (hr : Rd Pr w A k.length k) (hs : Sl A k.length c) (hk : KIs w) (h0 : 0 < w.heap.size) (hd : (u8s d).length = 32)
    (S : ∀ (A : Option Addr) (c : Nat) (w : World), Rd (fun _ => True) w A k.length k → Sl A k.length c → KIs w → 0 < w.heap.size → Calls Tryd.prog 18 #[.slice A k.length c] w fun E w' => E = .returned (.agg (u8s d).toArray) ∧ Below w.heap.size w w') :
    Calls Tryd.prog 30 #[.slice A k.length c] w fun E w' => E = .returned (.agg (u8s ((if 64 < k.length then d else k) ++ List.replicate (64 - (if 64 < k.length then d else k).length) 0)).toArray) ∧ Below w.heap.size w w' := by
  have HR := Lib.hid hr
  have HS := Lib.hid hs
  have HK := Lib.hid hk
  have HD := Lib.hid hd
  have SS := Lib.hid S
  clear hr hs hk hd S
  by_cases hb : 64 < k.length
  · rw [if_pos hb]
    have HD32 : Hid (d.length = 32) := Lib.hid (by have := HD.out; rwa [u8s_length] at this)
    obtain ⟨z, hz⟩ : ∃ z, z = d ++ List.replicate (64 - d.length) 0 := ⟨_, rfl⟩
    rw [← hz]
    have HZ := Lib.hid hz
    have HZ8 : Hid ((u8s z).length = 64) := Lib.hid (by rw [u8s_length, hz, List.length_append, List.length_replicate, HD32.out])
    have HI8 : Hid ((Tryd.prog.info? 45).map (·.size) = some (u8s z).length) := Lib.hid (by rw [HZ8.out]; exact Tryd.size45)
    have HM : Hid ((u8s d).length = Nat.min 32 64) := Lib.hid HD.out
    have HI32 : Hid ((Tryd.prog.info? 25).map (·.size) = some (u8s d).length) := Lib.hid (by rw [HD.out]; exact Tryd.size25)
    clear hz
    go_enter Tryd.func30, Tryd.ntmps30
    go_wp2_with (first
      | (go_at_call 18; refine (SS.out A c _ (((HR.out.below (((Below.refl _ _).alloc (Nat.le_refl _) _).alloc (by simp) _) (fun _ h _ => h))).mono fun _ _ _ => trivial) HS.out (HK.out.below (((Below.refl _ _).alloc (Nat.le_refl _) _).alloc (by simp) _) h0) (by simp)).mono ?_; rintro E w1 ⟨rfl, hb1⟩; have HB1 := Lib.hid hb1; have HS1 : Hid (w.heap.size + 1 < w1.heap.size) := Lib.hid (by have := hb1.size; simp at this; omega); clear hb1)
      | (refine wpList_copy_grown rfl (.tmp 11) (.tmp 12) 22 22 rfl 5 Tryd.underlying22 Tryd.size5 _ _ _ _ _ _ rfl rfl (w.heap.size + 1) 0 (u8s (List.replicate 64 0)) 45 ((HB2.out.1.block _ HS1.out).trans ((HB1.out.block _ (by simp)).trans (heap_new2 w _ _ _))) (u8s d) HM.out (fun _ => ⟨rfl, _, rfl, fun j v hv => by rw [add_lit]; exact HB2.out.2.1 j v hv⟩) (by rw [HD.out]; decide) (u8s_one d) ?_; intro w3 H3; have HZ3 : Hid (w3.rangeAt (w.heap.size + 1) 0 (u8s z)) := Lib.hid (by have := H3.out.1; rw [splice_head d, ← HZ.out] at this; exact range_of_heap this); have HB3 : Hid (Below w.heap.size w w3) := Lib.hid (((((Below.refl _ _).alloc (Nat.le_refl _) _).alloc (by simp) _).trans (HB1.out.mono (by simp; omega))).trans (HB2.out.1.mono (by have := HS1.out; omega)) |>.grown H3.out.2 (by have := HB2.out.2.2.2; have := HS1.out; omega) (fun k hk => by have := Option.some.inj hk; omega)); have HT3 : Hid (w3.there w.heap.size 0 (u8s z).length) := Lib.hid (by rw [HZ8.out]; exact there_grown (there_below (there_below (World.there_alloc (there_new w _ _) _) HB1.out (by simp; omega)) HB2.out.1 (by have := HS1.out; omega)) H3.out.2 (by omega)))
      | (refine wpList_load_mid rfl 45 (.tmp 3) rfl (w.heap.size + 1) 0 rfl (u8s z) _ HZ3.out Tryd.underlying45 rfl HI8.out ?_)
      | (refine wpList_store_cells rfl 45 (.tmp 2) (.tmp 14) rfl w.heap.size 0 (u8s z) rfl rfl HT3.out HI8.out (u8s_one _) ?_)
      | (refine wpList_store_fresh rfl 25 (.tmp 4) (.tmp 9) rfl (u8s d) rfl rfl (by rw [HD.out]; rfl) HI32.out (u8s_one d) ?_; intro w2 HB2))
    exact bodyPost_ret (ret_range (cs := u8s z) rfl rfl (World.rangeAt_setCells_same _ _ _ (u8s z) HT3.out) Tryd.underlying45 rfl HI8.out) rfl ⟨rfl, below_setCells (Nat.le_refl _) _ _ _ HB3.out⟩
  · rw [if_neg hb]
    have hle : k.length ≤ 64 := by omega
    obtain ⟨z, hz⟩ : ∃ z, z = k ++ List.replicate (64 - k.length) 0 := ⟨_, rfl⟩
    rw [← hz]
    have HZ := Lib.hid hz
    have HZ8 : Hid ((u8s z).length = 64) := Lib.hid (by rw [u8s_length, hz, List.length_append, List.length_replicate]; omega)
    have HI8 : Hid ((Tryd.prog.info? 45).map (·.size) = some (u8s z).length) := Lib.hid (by rw [HZ8.out]; exact Tryd.size45)
    have HM : Hid ((u8s k).length = Nat.min k.length 64) := Lib.hid (by rw [u8s_length]; exact (Nat.min_eq_left hle).symm)
    clear hz
    go_enter Tryd.func30, Tryd.ntmps30
    go_wp2_with (first
      | (refine wpList_copy_grown rfl (.tmp 11) (.tmp 12) 22 22 rfl 5 Tryd.underlying22 Tryd.size5 _ _ _ _ _ _ rfl rfl (w.heap.size + 1) 0 (u8s (List.replicate 64 0)) 45 (heap_new2 w _ _ _) (u8s k) HM.out (fun hp => ⟨rfl, (HR.out.below (((Below.refl _ _).alloc (Nat.le_refl _) _).alloc (by simp) _) (fun _ h _ => h)).src hp⟩) (by rw [u8s_length, u8s_length, List.length_replicate]; omega) (u8s_one k) ?_; intro w3 H3; have HZ3 : Hid (w3.rangeAt (w.heap.size + 1) 0 (u8s z)) := Lib.hid (by have := H3.out.1; rw [splice_head k, ← HZ.out] at this; exact range_of_heap this); have HB3 : Hid (Below w.heap.size w w3) := Lib.hid ((((Below.refl _ _).alloc (Nat.le_refl _) _).alloc (by simp) _).grown H3.out.2 (by simp; omega) (fun k hk => by have := Option.some.inj hk; omega)); have HT3 : Hid (w3.there w.heap.size 0 (u8s z).length) := Lib.hid (by rw [HZ8.out]; exact there_grown (World.there_alloc (there_new w _ _) _) H3.out.2 (by omega)))
      | (refine wpList_load_mid rfl 45 (.tmp 3) rfl (w.heap.size + 1) 0 rfl (u8s z) _ HZ3.out Tryd.underlying45 rfl HI8.out ?_)
      | (refine wpList_store_cells rfl 45 (.tmp 2) (.tmp 14) rfl w.heap.size 0 (u8s z) rfl rfl HT3.out HI8.out (u8s_one _) ?_))
    exact bodyPost_ret (ret_range (cs := u8s z) rfl rfl (World.rangeAt_setCells_same _ _ _ (u8s z) HT3.out) Tryd.underlying45 rfl HI8.out) rfl ⟨rfl, below_setCells (Nat.le_refl _) _ _ _ HB3.out⟩

theorem filled_any {Pr : Nat → Prop} (k : List UInt8) (A : Option Addr) (c : Nat) (w : World) (hr : Rd Pr w A k.length k) (hs : Sl A k.length c) (hL : k.length < 1000000000000000000) (hk : KIs w) (h0 : 0 < w.heap.size) :
    Calls Tryd.prog 30 #[.slice A k.length c] w fun E w' => E = .returned (.agg (u8s (filledOf k)).toArray) ∧ Below w.heap.size w w' :=
  filled_by k (sumOf k) A c w hr hs hk h0 (by rw [u8s_length, sumOf_length]) fun A c w hr hs hk h0 => sum_any k A c w hr hs hL hk h0
end Go.Proofs.YtfmmldpemdodkaaDoor
