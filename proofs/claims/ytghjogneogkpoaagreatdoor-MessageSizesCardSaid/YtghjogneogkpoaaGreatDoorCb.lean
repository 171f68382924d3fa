/-
  What is proved: what a cut is read as: a tag; the map of readers. Conditions as stated.
-/
import Derived.Test.YtghjogneogkpoaaGreatDoorCa
namespace Go.Proofs.YtghjogneogkpoaaGreatDoor.Sh
open Go.RowKit
set_option maxRecDepth 100000


theorem raw_s {w : World} {lo g : Nat} {s : Cst} (k : Nat) (h : CtS w lo g s) : Calls Tryz.prog 77 #[.pointer (some ⟨g, 0, none⟩), .int .i64 (k : Int)] w fun E w' => ∃ A n c, E = .returned (.slice A n c) ∧ Ow w.heap.size w' A n c (cRaw k s).1 ∧ CtS w' lo g (cRaw k s).2 ∧ Hid (w.grownBy w' (some g)) :=
  (Oct.raw_cut g s.1 s.2 (k : Int) w h).mono fun _ _ ⟨A, m, c, he, ho, hc, hg⟩ => ⟨A, m, c, he, ⟨ho.out.2.1, ho.out.2.2⟩, hc, hg⟩
theorem gb_low {w w1 w2 : World} {g B : Nat} (h1 : w.grownBy w1 (some g)) (h2 : Below B w1 w2) (hB : w.heap.size ≤ B) : w.grownBy w2 (some g) :=
  ⟨h2.os.trans h1.os, h2.tape.trans h1.tape, h2.output.trans h1.output, Nat.le_trans h1.size h2.size, fun k hk hne => (h2.block k (by omega)).trans (h1.block k hk hne)⟩
theorem CtS.low {w w' : World} {lo g B : Nat} {s : Cst} (h : CtS w lo g s) (hb : Below B w w') (hB : g < B) : CtS w' lo g s := by
  obtain ⟨A, n, c, at_, all, h1, h2, h3, h4, h5, h6, h7⟩ := h
  refine ⟨A, n, c, at_, all, (hb.block g hB).trans h1, ⟨h2.1, fun hn => ?_⟩, h3, h4, h5, h6, h7⟩
  obtain ⟨b, o, e, hl, hc⟩ := h2.2 hn
  have hb2 : b < g := (h7 _ e).2
  exact ⟨b, o, e, Nat.lt_of_lt_of_le hl hb.size, fun j u hu => (hb.cell (p := ⟨b, _, none⟩) (Nat.lt_trans hb2 hB)).trans (hc j u hu)⟩
theorem cRaw_len (k : Nat) (s : Cst) : (cRaw k s).1.length ≤ k := Oct.tkOut_length _ _ _
/-- The next tag: what there is, and noughts. -/
def cTag (s : Cst) : List UInt8 × Cst := ((cRaw 32 s).1 ++ List.replicate (32 - (cRaw 32 s).1.length) 0, (cRaw 32 s).2)
theorem cTag_len (s : Cst) : (cTag s).1.length = 32 := by
  have := cRaw_len 32 s
  simp [cTag]
  omega
theorem zero_tag27 (w : World) : (zeroValue 27).run Tryz.prog w = .ok (.agg (u8s noTag).toArray) w := by kernel_rfl
theorem splice_tag (x : List UInt8) : splice (u8s noTag) 0 (u8s x) = u8s (x ++ List.replicate (32 - x.length) 0) := by
  have e : u8s noTag = List.replicate 32 (Value.int .u8 0) := by rw [u8s, noTag, List.map_replicate]; rfl
  rw [e]
  simp only [splice, List.take_zero, List.nil_append, Nat.zero_add, List.drop_replicate, u8s, List.map_append, List.map_replicate, List.length_map]
  rfl
set_option maxHeartbeats 4000000 in
theorem cutTag_ms {w : World} {lo g : Nat} {s : Cst} (h : CtS w lo g s) : Calls Tryz.prog 46 #[.pointer (some ⟨g, 0, none⟩)] w fun E w' => E = .returned (.agg (u8s (cTag s).1).toArray) ∧ CtS w' lo g (cTag s).2 ∧ Hid (w.grownBy w' (some g)) := by
  have HG := Lib.hid h.lt
  have hz : ∀ w, (zeroValue 27).run Tryz.prog w = .ok (.agg (u8s noTag).toArray) w := zero_tag27
  have HJ : Hid ((Tryz.prog.info? 27).map (·.size) = some (u8s (cTag s).1).length) := Lib.hid (by rw [u8s_length, cTag_len]; exact Tryz.size27)
  have HL : Hid (0 + (u8s (cTag s).1).length ≤ (u8s noTag).length ∧ setAll (u8s noTag) 0 (u8s (cTag s).1) = u8s (cTag s).1) := Lib.hid ⟨by rw [u8s_length, u8s_length, cTag_len]; decide, setAll_all (by rw [u8s_length, u8s_length, cTag_len]; rfl)⟩
  go_enter Tryz.func46, Tryz.ntmps46
  go_wp2_with fail
  refine wp_region_any (by kernel_rfl) ?_
  change wpAny _ _ _ _ _ _ _ (((w.alloc (.cells (u8s noTag).toArray 27)).alloc (.cells (u8s noTag).toArray 27)).drewN 1)
  have H3 : Hid (CtS (((w.alloc (.cells (u8s noTag).toArray 27)).alloc (.cells (u8s noTag).toArray 27)).drewN 1) lo g s ∧ w.grownBy (((w.alloc (.cells (u8s noTag).toArray 27)).alloc (.cells (u8s noTag).toArray 27)).drewN 1) (some g) ∧ (((w.alloc (.cells (u8s noTag).toArray 27)).alloc (.cells (u8s noTag).toArray 27)).drewN 1).heap[w.heap.size]? = some (.cells (u8s noTag).toArray 27 (0, 0)) ∧ (((w.alloc (.cells (u8s noTag).toArray 27)).alloc (.cells (u8s noTag).toArray 27)).drewN 1).heap[w.heap.size + 1]? = some (.cells (u8s noTag).toArray 27 (0, 0)) ∧ (((w.alloc (.cells (u8s noTag).toArray 27)).alloc (.cells (u8s noTag).toArray 27)).drewN 1).heap.size = w.heap.size + 2) := Lib.hid ⟨h.below (below_drewN (((Below.refl _ _).alloc (Nat.le_refl _) _).alloc (by simp) _) 1), gb_below (below_drewN (((Below.refl _ _).alloc (Nat.le_refl _) _).alloc (by simp) _) 1) _, (((Below.refl _ _).alloc (Nat.le_refl _) (.cells (u8s noTag).toArray 27) : Below (w.alloc (.cells (u8s noTag).toArray 27)).heap.size _ _).block w.heap.size (by simp)).trans (heap_alloc_new w _), by simpa using heap_alloc_new (w.alloc (.cells (u8s noTag).toArray 27)) (.cells (u8s noTag).toArray 27), by simp⟩
  generalize ((w.alloc (.cells (u8s noTag).toArray 27)).alloc (.cells (u8s noTag).toArray 27)).drewN 1 = w3 at H3 ⊢
  clear h
  refine wpAny_of_held (S := fun _ => True) _ _ _ _ ?_
  refine wpAnyH_take (i := 0) (oi := { dst := some 4, op := Op.slice 27 (Operand.tmp 3) none none none, type := 38, pos := "message.go:266", after := #[], guard := none }) (v := .slice (some ⟨w.heap.size + 1, 0, none⟩) 32 32) rfl (by kernel_rfl) (by kernel_rfl) (by kernel_rfl) (fun _ _ _ h => h) (Or.inl ⟨by kernel_rfl, fun W hSW => by go_simp⟩) (trivial) ?_
  try simp only [Act.put, List.setIfInBounds_toArray, List.set_cons_zero, List.set_cons_succ]
  refine wpAnyH_take (i := 1) (oi := { dst := some 5, op := Op.move (Operand.tmp 0), type := 61, pos := "message.go:266", after := #[], guard := none }) (v := .pointer (some ⟨g, 0, none⟩)) rfl (by kernel_rfl) (by kernel_rfl) (by kernel_rfl) (fun _ _ _ h => h) (Or.inl ⟨by kernel_rfl, fun W hSW => by go_simp⟩) (trivial) ?_
  try simp only [Act.put, List.setIfInBounds_toArray, List.set_cons_zero, List.set_cons_succ]
  refine wpAnyH_ready (rs := [2]) (by kernel_rfl) (by simp) ?_
  refine AllReadyH.cons (o := { dst := some 6, op := Op.call { callee := Callee.value (Operand.func 77), args := #[Operand.tmp 5, Operand.const (Value.int IntKind.i64 32)], argTypes := #[61, 3] }, type := 38, pos := "message.go:266", after := #[{ on := 1, ground := Ground.data }], guard := none }) rfl (fun K' hK' => ?_) AllReadyH.nil
  go_simp
  go_at_call 77
  refine (raw_s 32 H3.out.1).mono ?_
  rintro E w4 ⟨A4, n4, c4, rfl, Hx4, Hc4, hg4⟩
  have H4 : Hid (CtS w4 lo g (cRaw 32 s).2 ∧ w.grownBy w4 (some g) ∧ w4.heap[w.heap.size]? = some (.cells (u8s noTag).toArray 27 (0, 0)) ∧ w4.heap[w.heap.size + 1]? = some (.cells (u8s noTag).toArray 27 (0, 0))) := Lib.hid ⟨Hc4, gb_trans H3.out.2.1 hg4.out, (hg4.out.block _ (by have := H3.out.2.2.2.2; omega) (fun e => by injection e with e; have := HG.out; omega)).trans H3.out.2.2.1, (hg4.out.block _ (by have := H3.out.2.2.2.2; omega) (fun e => by injection e with e; have := HG.out; omega)).trans H3.out.2.2.2.1⟩
  have O4 := Lib.hid Hx4
  clear Hx4 Hc4 H3
  refine hK'.out _ _ trivial (fun _ => ?_)
  clear hK' K'
  try simp only [Act.put, List.setIfInBounds_toArray, List.set_cons_zero, List.set_cons_succ]
  refine wpAnyH_ready (rs := [3]) (by kernel_rfl) (by simp) ?_
  refine AllReadyH.cons (o := { dst := some 7, op := Op.call { callee := Callee.builtin Builtin.copy, args := #[Operand.tmp 4, Operand.tmp 6], argTypes := #[38, 38] }, type := 3, pos := "message.go:266", after := #[{ on := 0, ground := Ground.data }, { on := 2, ground := Ground.data }, { on := 2, ground := Ground.chain }], guard := none }) rfl (fun K' hK' => ?_) AllReadyH.nil
  refine step_copy_splice rfl (.tmp 4) (.tmp 6) 38 38 rfl 5 Tryz.underlying38 Tryz.size5 (some ⟨w.heap.size + 1, 0, none⟩) A4 32 32 n4 c4 rfl rfl (w.heap.size + 1) 0 (u8s noTag) 27 H4.out.2.2.2 (u8s (cRaw 32 s).1) (by have h1 := O4.out.len; have h2 := cRaw_len 32 s; rw [u8s_length, h1]; exact (Nat.min_eq_left (by omega)).symm) (fun hp => ⟨rfl, O4.out.rd.src hp⟩) (by have h2 := cRaw_len 32 s; rw [u8s_length, u8s_length]; simp [noTag]; omega) (u8s_one _) (w.heap.size + 1) w4 (Below.refl _ _) (Nat.le_refl _) ?_
  intro w5 G5 b5
  rw [splice_tag] at G5
  have H5 : Hid (CtS w5 lo g (cRaw 32 s).2 ∧ w.grownBy w5 (some g) ∧ w5.heap[w.heap.size]? = some (.cells (u8s noTag).toArray 27 (0, 0)) ∧ w5.heap[w.heap.size + 1]? = some (.cells (u8s (cTag s).1).toArray 27 (0, 0))) := Lib.hid ⟨H4.out.1.low b5 (by have := HG.out; omega), gb_low H4.out.2.1 b5 (by omega), (b5.block _ (by omega)).trans H4.out.2.2.1, G5.out⟩
  clear G5 b5 H4 O4
  refine hK'.out _ _ trivial (fun _ => ?_)
  clear hK' K'
  refine wpAnyH_done (by kernel_rfl) ?_ _
  go_wp2_with (first | ((with_reducible refine wpList_load_midG ?_ 27 (.tmp 3) ?_ (w.heap.size + 1) 0 ?_ (u8s (cTag s).1) _ ?_ Tryz.underlying27 ?_ ?_ ?_); (· rfl); (· rfl); (· rfl); (· exact range_of H5.out.2.2.2); (· rfl); (· exact HJ.out)) | (refine wpList_store_part rfl 27 (.tmp 2) (.tmp 8) rfl w.heap.size 0 (u8s noTag) (u8s (cTag s).1) (u8s (cTag s).1) 27 H5.out.2.2.1 HL.out.1 HL.out.2 rfl rfl HJ.out (u8s_one _) ?_; intro w9 G9))
  exact bodyPost_ret (ret_range (cs := u8s (cTag s).1) rfl rfl (range_of G9.out.1) Tryz.underlying27 rfl HJ.out) rfl ⟨rfl, H5.out.1.far G9.out.2 HG.out, Lib.hid (gb_new H5.out.2.1 G9.out.2 (Nat.le_refl _))⟩
def rdE : Array MapEntry := #[{ key := .int .u8 1, val := .func (.func 102) #[] #[], born := 0 }, { key := .int .u8 2, val := .func (.func 103) #[] #[], born := 1 }, { key := .int .u8 3, val := .func (.func 104) #[] #[], born := 2 }, { key := .int .u8 4, val := .func (.func 105) #[] #[], born := 3 }, { key := .int .u8 5, val := .func (.func 104) #[] #[], born := 4 }, { key := .int .u8 6, val := .func (.func 106) #[] #[], born := 5 }]
theorem readers_ms (w : World) : Calls Tryz.prog 76 #[] w fun E w' => E = .returned (.map (some w.heap.size)) ∧ w'.heap[w.heap.size]? = some (.map rdE 6) ∧ Below w.heap.size w w' := by
  have hmk := run_makeMap (P := Tryz.prog) 99
  have HM0 : Hid ((w.alloc (.map #[] 0)).heap[w.heap.size]? = some (.map #[] 0)) := Lib.hid (heap_alloc_new w _)
  go_enter Tryz.func76, Tryz.ntmps76
  go_wp2_with (first | (refine wpList_insert rfl (.tmp 1) (.const (.int .u8 1)) (.func 102) 99 5 _ .u8 rfl Tryz.underlying99 Tryz.underlying5 w.heap.size (#[]) 0 1 _ rfl HM0.out rfl rfl (by kernel_rfl) ?_; intro w1 G1) | (refine wpList_insert rfl (.tmp 1) (.const (.int .u8 2)) (.func 103) 99 5 _ .u8 rfl Tryz.underlying99 Tryz.underlying5 w.heap.size (#[{ key := .int .u8 1, val := .func (.func 102) #[] #[], born := 0 }]) 1 2 _ rfl G1.out.1 rfl rfl (by kernel_rfl) ?_; intro w2 G2) | (refine wpList_insert rfl (.tmp 1) (.const (.int .u8 3)) (.func 104) 99 5 _ .u8 rfl Tryz.underlying99 Tryz.underlying5 w.heap.size (#[{ key := .int .u8 1, val := .func (.func 102) #[] #[], born := 0 }, { key := .int .u8 2, val := .func (.func 103) #[] #[], born := 1 }]) 2 3 _ rfl G2.out.1 rfl rfl (by kernel_rfl) ?_; intro w3 G3) | (refine wpList_insert rfl (.tmp 1) (.const (.int .u8 4)) (.func 105) 99 5 _ .u8 rfl Tryz.underlying99 Tryz.underlying5 w.heap.size (#[{ key := .int .u8 1, val := .func (.func 102) #[] #[], born := 0 }, { key := .int .u8 2, val := .func (.func 103) #[] #[], born := 1 }, { key := .int .u8 3, val := .func (.func 104) #[] #[], born := 2 }]) 3 4 _ rfl G3.out.1 rfl rfl (by kernel_rfl) ?_; intro w4 G4) | (refine wpList_insert rfl (.tmp 1) (.const (.int .u8 5)) (.func 104) 99 5 _ .u8 rfl Tryz.underlying99 Tryz.underlying5 w.heap.size (#[{ key := .int .u8 1, val := .func (.func 102) #[] #[], born := 0 }, { key := .int .u8 2, val := .func (.func 103) #[] #[], born := 1 }, { key := .int .u8 3, val := .func (.func 104) #[] #[], born := 2 }, { key := .int .u8 4, val := .func (.func 105) #[] #[], born := 3 }]) 4 5 _ rfl G4.out.1 rfl rfl (by kernel_rfl) ?_; intro w5 G5) | (refine wpList_insert rfl (.tmp 1) (.const (.int .u8 6)) (.func 106) 99 5 _ .u8 rfl Tryz.underlying99 Tryz.underlying5 w.heap.size (#[{ key := .int .u8 1, val := .func (.func 102) #[] #[], born := 0 }, { key := .int .u8 2, val := .func (.func 103) #[] #[], born := 1 }, { key := .int .u8 3, val := .func (.func 104) #[] #[], born := 2 }, { key := .int .u8 4, val := .func (.func 105) #[] #[], born := 3 }, { key := .int .u8 5, val := .func (.func 104) #[] #[], born := 4 }]) 5 6 _ rfl G5.out.1 rfl rfl (by kernel_rfl) ?_; intro w6 G6))
  go_ret
  exact ⟨rfl, G6.out.1, below_at (below_at (below_at (below_at (below_at (below_at ((Below.refl _ _).alloc (Nat.le_refl _) _) G1.out.2) G2.out.2) G3.out.2) G4.out.2) G5.out.2) G6.out.2⟩
end Go.Proofs.YtghjogneogkpoaaGreatDoor.Sh
