/-
  What is proved: what a key, a value, an operation may be. Conditions as stated.
-/
import Derived.Test.YtflenghnmflenaaDoorLa
namespace Go.Proofs.YtflenghnmflenaaDoor
open Go.RowKit
set_option maxRecDepth 100000

theorem ret_dec {p q : Prop} [Decidable p] [Decidable q] (h : p ↔ q) : Ending.returned (.bool (decide p)) = Ending.returned (.bool (decide q)) := by rw [decide_eq_decide.2 h]
theorem block_cell {w : World} {g : Nat} {C : List Value} {t : TypeId} (h : w.heap[g]? = some (.cells C.toArray t (0, 0))) (k : Nat) (v : Value) (hv : C[k]? = some v) : w.cell? ⟨g, k, none⟩ = some v := by
  rw [cell_of_row w g k C.toArray t (0, 0) h]
  simpa using hv
theorem range_block {w : World} {g : Nat} {C : List Value} {t : TypeId} (h : w.heap[g]? = some (.cells C.toArray t (0, 0))) (o : Nat) (cs : List Value) (hc : ∀ j v, cs[j]? = some v → C[o + j]? = some v) : w.rangeAt g o cs := fun j v hv =>
  block_cell h (o + j) v (hc j v hv)
theorem range_all {w : World} {g : Nat} {C : List Value} {t : TypeId} (h : w.heap[g]? = some (.cells C.toArray t (0, 0))) : w.rangeAt g 0 C := range_block h 0 C fun j v hv => by rwa [Nat.zero_add]
theorem ret_range {P : Program} {fn : Func} {p : Tmp} {ty : TypeId} (h : fn.results = #[.cell p ty]) {tmps : Array Value} {w : World} {g : Nat} {cs : List Value} {d : TypeDesc}
    (hp : tmps.getD p undef = .pointer (some ⟨g, 0, none⟩)) (hc : w.rangeAt g 0 cs) (hu : P.underlying ty = some d) (hd : d.isRow = true) (hi : (P.info? ty).map (·.size) = some cs.length) :
    (results fn tmps).run P w = .ok (.agg cs.toArray) w := by
  have hp' : tmps[p]?.getD undef = .pointer (some ⟨g, 0, none⟩) := by simpa using hp
  simp [results, h, hp', asAddr, run_loadVar_mid w g 0 ty cs d hc hu hd hi]
theorem ret_ct {P : Program} {fn : Func} {p q : Tmp} {ty : TypeId} (h : fn.results = #[.cell p ty, .tmp q]) {tmps : Array Value} {w : World} {g : Nat} {cs : List Value} {d : TypeDesc} {v : Value}
    (hp : tmps.getD p undef = .pointer (some ⟨g, 0, none⟩)) (hq : tmps.getD q undef = v) (hc : w.rangeAt g 0 cs) (hu : P.underlying ty = some d) (hd : d.isRow = true) (hi : (P.info? ty).map (·.size) = some cs.length) :
    (results fn tmps).run P w = .ok (.tuple #[.agg cs.toArray, v]) w := by
  have hp' : tmps[p]?.getD undef = .pointer (some ⟨g, 0, none⟩) := by simpa using hp
  have hq' : tmps[q]?.getD undef = v := by simpa using hq
  simp [results, h, hp', hq', asAddr, run_loadVar_mid w g 0 ty cs d hc hu hd hi]
theorem Tryd.is49 : (Tryd.prog.info? 49).map (·.size) = some 6 := by kernel_rfl
theorem Tryd.is32 : (Tryd.prog.info? 32).map (·.size) = some 2 := by kernel_rfl
theorem mayK_any (k : ByteArray) (w : World) : Calls Tryd.prog 40 #[.string k] w fun E w' => E = .returned (.bool (mayK k)) ∧ w = w' := by
  by_cases h1 : 1 ≤ k.size
  · have h1' : ¬ ((k.size : Int) < 1) := by omega
    by_cases h2 : k.size ≤ 32
    · go_enter Tryd.func40, Tryd.ntmps40
      go_wp2_with fail
      go_ret
      exact ⟨by simp [mayK, h1, h2] <;> omega, rfl⟩
    · go_enter Tryd.func40, Tryd.ntmps40
      go_wp2_with fail
      go_ret
      exact ⟨by simp [mayK, h1, h2] <;> omega, rfl⟩
  · go_enter Tryd.func40, Tryd.ntmps40
    go_wp2_with fail
    go_ret
    exact ⟨by simp [mayK, h1], rfl⟩
theorem mayV_any (k : ByteArray) (w : World) : Calls Tryd.prog 41 #[.string k] w fun E w' => E = .returned (.bool (mayV k)) ∧ w = w' := by
  go_enter Tryd.func41, Tryd.ntmps41
  go_wp2_with fail
  go_ret
  exact ⟨ret_dec (by omega), rfl⟩
theorem refused_any (e : Nat) (w : World) : Calls Tryd.prog 32 #[.int .i64 (e : Int)] w fun E w' => E = .returned (.agg #[.int .i64 (e : Int), .string ByteArray.empty]) ∧ Below w.heap.size w w' := by
  have HB : Hid (Below w.heap.size w (w.alloc (.cells #[.int .i64 (e : Int), .string ByteArray.empty] 32))) := Lib.hid ((Below.refl _ _).alloc (Nat.le_refl _) _)
  go_enter Tryd.func32, Tryd.ntmps32
  go_wp2_with fail
  (try simp only [Exit.inBlock, Exit.then]); refine bodyPost_ret (ret_range (g := w.heap.size) rfl rfl (range_all (C := [.int .i64 (e : Int), .string ByteArray.empty]) (heap_alloc_new w _)) Tryd.underlying32 rfl Tryd.is32) rfl ?_
  exact ⟨rfl, HB.out⟩

def OwnP (w : World) (x : MOp) (b : Bool) (E : Ending) (w' : World) : Prop := E = .returned (.tuple #[.agg (opC x).toArray, .bool b]) ∧ Below w.heap.size w w'
theorem two_new (w : World) (o1 : Obj) (C : List Value) (t : TypeId) : ((w.alloc o1).alloc (.cells C.toArray t)).heap[w.heap.size + 1]? = some (.cells C.toArray t (0, 0)) := by
  have := heap_alloc_new (w.alloc o1) (.cells C.toArray t)
  simpa using this
theorem own_1 (kk : UInt8) (key value old to : ByteArray) (am : Nat) (w : World) (hk : (kk.toNat : Int) = 1) : Calls Tryd.prog 42 #[.agg (opC ⟨kk, key, value, old, to, am⟩).toArray] w fun E w' => OwnP w (⟨kk, key, ByteArray.empty, ByteArray.empty, ByteArray.empty, 0⟩) (true) E w' := by
  dsimp only [opC]
  obtain ⟨K, hK⟩ : ∃ K : Int, K = kk.toNat := ⟨_, rfl⟩
  have HE := Lib.hid (show opC (⟨kk, key, ByteArray.empty, ByteArray.empty, ByteArray.empty, 0⟩) = [.int .u8 K, .string key, .string ByteArray.empty, .string ByteArray.empty, .string ByteArray.empty, .int .u64 0] by rw [hK]; rfl)
  have HB : ∀ o1 o2, Hid (Below w.heap.size w ((w.alloc o1).alloc o2)) := fun _ _ => Lib.hid (((Below.refl _ _).alloc (Nat.le_refl _) _).alloc (by simp) _)
  rw [← hK] at hk ⊢
  clear hK
  subst hk
  go_enter Tryd.func42, Tryd.ntmps42
  go_wp2_with fail
  all_goals ((try simp only [Exit.inBlock, Exit.then]); refine bodyPost_ret (ret_ct (g := w.heap.size + 1) (cs := [.int .u8 _, .string key, .string ByteArray.empty, .string ByteArray.empty, .string ByteArray.empty, .int .u64 0]) rfl rfl rfl (range_all (two_new w _ _ _)) Tryd.underlying49 rfl Tryd.is49) rfl ?_)
  all_goals exact ⟨by rw [HE.out]; rfl, (HB _ _).out⟩
theorem own_3 (kk : UInt8) (key value old to : ByteArray) (am : Nat) (w : World) (hk : (kk.toNat : Int) = 3) : Calls Tryd.prog 42 #[.agg (opC ⟨kk, key, value, old, to, am⟩).toArray] w fun E w' => OwnP w (⟨kk, key, ByteArray.empty, ByteArray.empty, ByteArray.empty, 0⟩) (true) E w' := by
  dsimp only [opC]
  obtain ⟨K, hK⟩ : ∃ K : Int, K = kk.toNat := ⟨_, rfl⟩
  have HE := Lib.hid (show opC (⟨kk, key, ByteArray.empty, ByteArray.empty, ByteArray.empty, 0⟩) = [.int .u8 K, .string key, .string ByteArray.empty, .string ByteArray.empty, .string ByteArray.empty, .int .u64 0] by rw [hK]; rfl)
  have HB : ∀ o1 o2, Hid (Below w.heap.size w ((w.alloc o1).alloc o2)) := fun _ _ => Lib.hid (((Below.refl _ _).alloc (Nat.le_refl _) _).alloc (by simp) _)
  rw [← hK] at hk ⊢
  clear hK
  subst hk
  go_enter Tryd.func42, Tryd.ntmps42
  go_wp2_with fail
  all_goals ((try simp only [Exit.inBlock, Exit.then]); refine bodyPost_ret (ret_ct (g := w.heap.size + 1) (cs := [.int .u8 _, .string key, .string ByteArray.empty, .string ByteArray.empty, .string ByteArray.empty, .int .u64 0]) rfl rfl rfl (range_all (two_new w _ _ _)) Tryd.underlying49 rfl Tryd.is49) rfl ?_)
  all_goals exact ⟨by rw [HE.out]; rfl, (HB _ _).out⟩
theorem own_2 (kk : UInt8) (key value old to : ByteArray) (am : Nat) (w : World) (hk : (kk.toNat : Int) = 2) : Calls Tryd.prog 42 #[.agg (opC ⟨kk, key, value, old, to, am⟩).toArray] w fun E w' => OwnP w (⟨kk, key, value, ByteArray.empty, ByteArray.empty, 0⟩) (mayV value) E w' := by
  dsimp only [opC]
  obtain ⟨K, hK⟩ : ∃ K : Int, K = kk.toNat := ⟨_, rfl⟩
  have HE := Lib.hid (show opC (⟨kk, key, value, ByteArray.empty, ByteArray.empty, 0⟩) = [.int .u8 K, .string key, .string value, .string ByteArray.empty, .string ByteArray.empty, .int .u64 0] by rw [hK]; rfl)
  have HB : ∀ o1 o2, Hid (Below w.heap.size w ((w.alloc o1).alloc o2)) := fun _ _ => Lib.hid (((Below.refl _ _).alloc (Nat.le_refl _) _).alloc (by simp) _)
  rw [← hK] at hk ⊢
  clear hK
  subst hk
  have HV := fun W => mayV_any value W
  obtain ⟨z, hz⟩ : ∃ z, z = mayV value := ⟨_, rfl⟩
  rw [← hz] at HV ⊢
  clear hz
  go_enter Tryd.func42, Tryd.ntmps42
  go_wp2_with fail
  go_region_with (go_at_call 41; refine (HV _).mono ?_; rintro E w1 ⟨rfl, rfl⟩)
  all_goals go_wp2_with fail
  all_goals ((try simp only [Exit.inBlock, Exit.then]); refine bodyPost_ret (ret_ct (g := w.heap.size + 1) (cs := [.int .u8 _, .string key, .string value, .string ByteArray.empty, .string ByteArray.empty, .int .u64 0]) rfl rfl rfl (range_all (two_new w _ _ _)) Tryd.underlying49 rfl Tryd.is49) rfl ?_)
  all_goals exact ⟨by rw [HE.out]; rfl, (by first | exact below_drewN (HB _ _).out _ | exact below_drewN (below_drewN (HB _ _).out _) _)⟩
theorem own_no (kk : UInt8) (key value old to : ByteArray) (am : Nat) (w : World) (hk : ¬ ((kk.toNat : Int) = 1) ∧ ¬ ((kk.toNat : Int) = 2) ∧ ¬ ((kk.toNat : Int) = 3) ∧ ¬ ((kk.toNat : Int) = 4) ∧ ¬ ((kk.toNat : Int) = 5)) : Calls Tryd.prog 42 #[.agg (opC ⟨kk, key, value, old, to, am⟩).toArray] w fun E w' => OwnP w (⟨kk, key, ByteArray.empty, ByteArray.empty, ByteArray.empty, 0⟩) (false) E w' := by
  dsimp only [opC]
  obtain ⟨K, hK⟩ : ∃ K : Int, K = kk.toNat := ⟨_, rfl⟩
  have HE := Lib.hid (show opC (⟨kk, key, ByteArray.empty, ByteArray.empty, ByteArray.empty, 0⟩) = [.int .u8 K, .string key, .string ByteArray.empty, .string ByteArray.empty, .string ByteArray.empty, .int .u64 0] by rw [hK]; rfl)
  have HB : ∀ o1 o2, Hid (Below w.heap.size w ((w.alloc o1).alloc o2)) := fun _ _ => Lib.hid (((Below.refl _ _).alloc (Nat.le_refl _) _).alloc (by simp) _)
  rw [← hK] at hk ⊢
  clear hK
  obtain ⟨h1, h2, h3, h4, h5⟩ := hk
  go_enter Tryd.func42, Tryd.ntmps42
  go_wp2_with fail
  all_goals ((try simp only [Exit.inBlock, Exit.then]); refine bodyPost_ret (ret_ct (g := w.heap.size + 1) (cs := [.int .u8 _, .string key, .string ByteArray.empty, .string ByteArray.empty, .string ByteArray.empty, .int .u64 0]) rfl rfl rfl (range_all (two_new w _ _ _)) Tryd.underlying49 rfl Tryd.is49) rfl ?_)
  all_goals exact ⟨by rw [HE.out]; rfl, (HB _ _).out⟩
end Go.Proofs.YtflenghnmflenaaDoor
