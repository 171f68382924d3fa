/-
  What is proved: a body with nothing but what its kind has, and whether that may be (ownOf). Conditions as stated.
-/
import Derived.Test.YtghjogneogkpoaaGreatDoorMg
namespace Go.Proofs.YtghjogneogkpoaaGreatDoor.Sh
open Go.RowKit
set_option maxRecDepth 100000


def bodyOwn (x : MBody) : MBody :=
  if x.kind = 1 then { zeroBody with kind := x.kind, view := x.view, req := x.req }
  else if x.kind = 2 then { zeroBody with kind := x.kind, view := x.view, k := x.k }
  else if x.kind = 4 then { zeroBody with kind := x.kind, view := x.view, qa := x.qa, qc := x.qc, qs := x.qs }
  else if x.kind = 6 then { zeroBody with kind := x.kind, k := x.k, dig := x.dig }
  else { zeroBody with kind := x.kind, view := x.view }
def kindMay (x : MBody) : Bool :=
  if x.kind = 1 then reqMay x.req
  else if x.kind = 2 then isCnt x.k
  else if x.kind = 3 ∨ x.kind = 5 then decide (1 ≤ x.view)
  else if x.kind = 4 then decide (1 ≤ x.view) && prsMay x.qs
  else if x.kind = 6 then isCnt x.k
  else false
theorem bodyOwn_wf {x : MBody} (h : x.Wf) : (bodyOwn x).Wf := by
  unfold bodyOwn
  split
  · exact ⟨h.1, rfl⟩
  split
  · exact ⟨rfl, rfl⟩
  split
  · exact ⟨rfl, rfl⟩
  split
  · exact ⟨rfl, h.2⟩
  · exact ⟨rfl, rfl⟩
theorem OwAt.res {w : World} {x o : MBody} {wr : World} (H : OwAt w x o wr) (h : o.Wf) {tmps : Array Value} {b : Value} (hp : tmps.getD 2 undef = .pointer (some ⟨w.heap.size + 1, 0, none⟩)) (hu : tmps.getD 3 undef = b) :
    (results Tryz.f62 tmps).run Tryz.prog wr = .ok (.tuple #[.agg (bodyC o).toArray, b]) wr :=
  ret_range2 rfl hp hu (range_of H.own) Tryz.underlying32 rfl (by rw [bodyC_length h]; exact Tryz.is32)
theorem OwAt.set {w : World} {x o o' : MBody} {wr : World} (H : OwAt w x o wr) (k : Nat) (v : Value) (hC : (bodyC o).set k v = bodyC o') : OwAt w x o' (wr.setCell ⟨w.heap.size + 1, k, none⟩ v) := by
  refine H.grown ⟨?_, gb_set _ _ _ _⟩
  have := heap_set H.own v (k := k)
  rwa [hC] at this
theorem OwAt.cell {w : World} {x o : MBody} {wr : World} (H : OwAt w x o wr) (k : Nat) (v : Value) (hC : (bodyC o)[k]? = some v) : wr.cell? ⟨w.heap.size + 1, k, none⟩ = some v := by
  have := range_of H.own k v hC
  rwa [Nat.zero_add] at this
theorem set_req (o : MBody) (r : MReq) (ho : o.req.tag.length = 32) (hr : r.tag.length = 32) : setAll (bodyC o) 3 (reqC r) = bodyC { o with req := r } :=
  setAll_mid (reqC r) [.int .u8 (o.kind.toNat : Int), .int .u64 (o.view : Int), .int .u64 (o.k : Int)] (reqC o.req) (o.qv :: u8s o.dig) (by rw [reqC_length ho, reqC_length hr])
theorem bodyC_split (o : MBody) : bodyC o = (.int .u8 (o.kind.toNat : Int) :: .int .u64 (o.view : Int) :: .int .u64 (o.k : Int) :: (reqC o.req ++ [o.qv])) ++ (u8s o.dig ++ []) := by simp [bodyC]
theorem set_dig (o : MBody) (d : List UInt8) (h1 : o.req.tag.length = 32) (ho : o.dig.length = 32) (hr : d.length = 32) : setAll (bodyC o) 44 (u8s d) = bodyC { o with dig := d } := by
  have := setAll_mid (u8s d) (.int .u8 (o.kind.toNat : Int) :: .int .u64 (o.view : Int) :: .int .u64 (o.k : Int) :: (reqC o.req ++ [o.qv])) (u8s o.dig) [] (by rw [u8s_length, u8s_length, ho, hr])
  rw [← bodyC_split] at this
  rw [show (.int .u8 (o.kind.toNat : Int) :: .int .u64 (o.view : Int) :: .int .u64 (o.k : Int) :: (reqC o.req ++ [o.qv]) : List Value).length = 44 by simp [reqC_length h1]] at this
  rw [this]
  simp [bodyC, MBody.qv]
theorem set_q (o : MBody) (A : Option Addr) (c : Nat) (qs : List (Int × Nat)) (h1 : o.req.tag.length = 32) : (bodyC o).set 43 (.slice A qs.length c) = bodyC { o with qa := A, qc := c, qs := qs } := by
  have : bodyC o = (.int .u8 (o.kind.toNat : Int) :: .int .u64 (o.view : Int) :: .int .u64 (o.k : Int) :: reqC o.req) ++ (o.qv :: u8s o.dig) := by simp [bodyC]
  rw [this, List.set_append_right _ _ (by simp [reqC_length h1])]
  simp [bodyC, MBody.qv, reqC_length h1]
theorem OwAt.same {w : World} {x o : MBody} {wr : World} (H : OwAt w x o wr) : OwAt w x o (wr.setCells (w.heap.size + 1) 0 (bodyC o)) :=
  H.grown ⟨by rw [heap_setCells _ _ _ _ H.own, setAll_all rfl], gb_setCells _ _ _ _⟩
set_option maxHeartbeats 4000000 in
theorem own_3 (x : MBody) (w : World) (hx : x.Wf) (HKI : Hid (x.kind = 3)) :
    Calls Tryz.prog 62 #[.agg (bodyC x).toArray] w fun E w' => E = .returned (.tuple #[.agg (bodyC ({ zeroBody with kind := 3, view := x.view })).toArray, .bool (decide (1 ≤ x.view))]) ∧ Hid (Below w.heap.size w w') := by
  have HK : Hid (∀ o : MBody, o.Wf → (Tryz.prog.info? 32).map (·.size) = some (bodyC o).length) := Lib.hid fun o h => by rw [bodyC_length h]; exact Tryz.is32
  have HX := Lib.hid hx
  have hz : ∀ w, (zeroValue 32).run Tryz.prog w = .ok (.agg (bodyC zeroBody).toArray) w := zero_body
  have R := body_lies (World.rangeAt_alloc (range_box w (bodyC x) 32) (.cells (bodyC zeroBody).toArray 32)) hx
  have x0 : ((w.alloc (.cells (bodyC x).toArray 32)).alloc (.cells (bodyC zeroBody).toArray 32)).cell? ⟨w.heap.size, 0, none⟩ = some (.int .u8 3) := R.kind.trans (by rw [HKI.out]; rfl)
  have x1 : ((w.alloc (.cells (bodyC x).toArray 32)).alloc (.cells (bodyC zeroBody).toArray 32)).cell? ⟨w.heap.size, 1, none⟩ = some (.int .u64 (x.view : Int)) := R.view
  have HZ : Hid (OwAt w x zeroBody ((w.alloc (.cells (bodyC x).toArray 32)).alloc (.cells (bodyC zeroBody).toArray 32))) := Lib.hid ⟨((Below.refl _ _).alloc (Nat.le_refl _) _).alloc (by simp) _, by simp, World.rangeAt_alloc (range_box w (bodyC x) 32) _, by simpa using heap_alloc_new (w.alloc (.cells (bodyC x).toArray 32)) (.cells (bodyC zeroBody).toArray 32)⟩
  have HLE : Hid (0 + (bodyC { zeroBody with kind := 3, view := x.view }).length ≤ (bodyC zeroBody).length ∧ setAll (bodyC zeroBody) 0 (bodyC { zeroBody with kind := 3, view := x.view }) = bodyC { zeroBody with kind := 3, view := x.view }) := Lib.hid ⟨by rw [bodyC_length zero_wf, bodyC_length ⟨rfl, rfl⟩]; omega, setAll_all (by rw [bodyC_length zero_wf, bodyC_length ⟨rfl, rfl⟩])⟩
  clear R hx
  go_enter Tryz.func62, Tryz.ntmps62
  go_wp2_with ((refine wpList_store_part rfl 32 (.tmp 2) (.tmp 8) rfl (w.heap.size + 1) 0 (bodyC zeroBody) (bodyC { zeroBody with kind := 3, view := x.view }) (bodyC { zeroBody with kind := 3, view := x.view }) 32 HZ.out.own (HLE.out.1) (HLE.out.2) rfl rfl (HK.out _ ⟨rfl, rfl⟩) (one_bodyC _) ?_; intro w1 G1; have H1 := Lib.hid (HZ.out.grown G1.out); clear G1 HZ x0 x1; have y0 : w1.cell? ⟨w.heap.size, 0, none⟩ = some (.int .u8 3) := (body_lies H1.out.src HX.out).kind.trans (by rw [HKI.out]; rfl); have y1 : w1.cell? ⟨w.heap.size, 1, none⟩ = some (.int .u64 (x.view : Int)) := (body_lies H1.out.src HX.out).view; have y2 : w1.cell? ⟨w.heap.size, 2, none⟩ = some (.int .u64 (x.k : Int)) := (body_lies H1.out.src HX.out).k; have y43 : w1.cell? ⟨w.heap.size, 43, none⟩ = some (.slice x.qa x.qs.length x.qc) := (body_lies H1.out.src HX.out).q; have z2 : w1.cell? ⟨w.heap.size + 1, 2, none⟩ = some (.int .u64 0) := H1.out.cell 2 _ rfl; have z43 : w1.cell? ⟨w.heap.size + 1, 43, none⟩ = some (.slice none 0 0) := H1.out.cell 43 _ rfl; have hf := fun k => free_block H1.out.own k))
  refine wp_region_any (by kernel_rfl) ?_
  have H3 := Lib.hid (H1.out.drewN 1)
  change wpAny _ _ _ _ _ _ _ (w1.drewN 1)
  generalize w1.drewN 1 = w3 at H3 ⊢
  refine wpAny_of_held (S := fun W => OwAt w x ({ zeroBody with kind := 3, view := x.view }) W) _ _ _ _ ?_
  refine wpAnyH_take (i := 0) (oi := { dst := some 32, op := Op.load 32 (Operand.tmp 2), type := 32, pos := "message.go:116", after := #[], guard := none }) (v := .agg (bodyC ({ zeroBody with kind := 3, view := x.view })).toArray) rfl (by kernel_rfl) (by kernel_rfl) (by kernel_rfl) (fun _ _ _ h => h) (Or.inl ⟨by kernel_rfl, fun W hSW => exec_load_mid 32 (.tmp 2) rfl (w.heap.size + 1) 0 rfl (bodyC ({ zeroBody with kind := 3, view := x.view })) _ (range_of hSW.own) Tryz.underlying32 rfl (HK.out _ ⟨rfl, rfl⟩)⟩) (H3.out) ?_
  try simp only [Act.put, List.setIfInBounds_toArray, List.set_cons_zero, List.set_cons_succ]
  refine wpAnyH_take (i := 1) (oi := { dst := some 33, op := Op.fieldAddr 32 (Operand.tmp 1) 1, type := 0, pos := "message.go:116", after := #[{ on := 4, ground := Ground.gcOnly Departure.lateStores }], guard := none }) (v := .pointer (some ⟨w.heap.size, 1, none⟩)) rfl (by kernel_rfl) (by kernel_rfl) (by kernel_rfl) (fun _ _ _ h => h) (Or.inl ⟨by kernel_rfl, fun W hSW => by go_simp⟩) (H3.out) ?_
  try simp only [Act.put, List.setIfInBounds_toArray, List.set_cons_zero, List.set_cons_succ]
  refine wpAnyH_take (i := 2) (oi := { dst := some 34, op := Op.load 22 (Operand.tmp 33), type := 22, pos := "message.go:116", after := #[{ on := 1, ground := Ground.data }, { on := 4, ground := Ground.gcOnly Departure.lateStores }], guard := none }) (v := .int .u64 (x.view : Int)) rfl (by kernel_rfl) (by kernel_rfl) (by kernel_rfl) (fun _ _ _ h => h) (Or.inl ⟨by kernel_rfl, fun W hSW => by have hv := (body_lies hSW.src HX.out).view; go_simp⟩) (H3.out) ?_
  try simp only [Act.put, List.setIfInBounds_toArray, List.set_cons_zero, List.set_cons_succ]
  refine wpAnyH_take (i := 3) (oi := { dst := some 35, op := Op.binOp BinOp.geq 22 (Operand.tmp 34) (Operand.const (Value.int IntKind.u64 1)) 22, type := 4, pos := "message.go:116", after := #[{ on := 2, ground := Ground.data }, { on := 4, ground := Ground.gcOnly Departure.lateStores }], guard := none }) (v := .bool (decide (1 ≤ x.view))) rfl (by kernel_rfl) (by kernel_rfl) (by kernel_rfl) (fun _ _ _ h => h) (Or.inl ⟨by kernel_rfl, fun W hSW => by go_simp; omega⟩) (H3.out) ?_
  try simp only [Act.put, List.setIfInBounds_toArray, List.set_cons_zero, List.set_cons_succ]
  refine wpAnyH_ready (rs := [4]) (by kernel_rfl) (by simp) ?_
  refine AllReadyH.cons (o := { dst := none, op := Op.store 32 (Operand.tmp 2) (Operand.tmp 32), type := 0, pos := "message.go:116", after := #[{ on := 0, ground := Ground.data }, { on := 0, ground := Ground.phase }, { on := 1, ground := Ground.textOnly Departure.lateStores }, { on := 2, ground := Ground.textOnly Departure.lateStores }, { on := 3, ground := Ground.textOnly Departure.lateStores }], guard := none }) rfl (fun K' hK' => ?_) AllReadyH.nil
  refine step_store_cells rfl 32 (.tmp 2) (.tmp 32) rfl (w.heap.size + 1) 0 (bodyC ({ zeroBody with kind := 3, view := x.view })) rfl rfl (there_block H3.out.own 0 _ (by rw [Nat.zero_add]; exact Nat.le_refl _)) (HK.out _ ⟨rfl, rfl⟩) (one_bodyC _) ?_
  have H5 := Lib.hid (H3.out.same)
  refine hK'.out _ _ H5.out (fun _ => ?_)
  clear hK' K'
  refine wpAnyH_take (i := 5) (oi := { dst := some 3, op := Op.assign (Operand.tmp 35), type := 4, pos := "message.go:116", after := #[{ on := 3, ground := Ground.data }, { on := 4, ground := Ground.chain }, { on := 0, ground := Ground.phase }, { on := 1, ground := Ground.phase }, { on := 2, ground := Ground.phase }, { on := 3, ground := Ground.phase }, { on := 4, ground := Ground.phase }], guard := none }) (v := .bool (decide (1 ≤ x.view))) rfl (by kernel_rfl) (by kernel_rfl) (by kernel_rfl) (fun _ _ _ h => h) (Or.inl ⟨by kernel_rfl, fun W hSW => by go_simp⟩) (H5.out) ?_
  try simp only [Act.put, List.setIfInBounds_toArray, List.set_cons_zero, List.set_cons_succ]
  refine wpAnyH_done (by kernel_rfl) ?_ _
  go_wp2_with fail
  exact bodyPost_ret (H5.out.res ⟨rfl, rfl⟩ rfl rfl) rfl ⟨rfl, Lib.hid H5.out.bel⟩
set_option maxHeartbeats 4000000 in
theorem own_5 (x : MBody) (w : World) (hx : x.Wf) (HKI : Hid (x.kind = 5)) :
    Calls Tryz.prog 62 #[.agg (bodyC x).toArray] w fun E w' => E = .returned (.tuple #[.agg (bodyC ({ zeroBody with kind := 5, view := x.view })).toArray, .bool (decide (1 ≤ x.view))]) ∧ Hid (Below w.heap.size w w') := by
  have HK : Hid (∀ o : MBody, o.Wf → (Tryz.prog.info? 32).map (·.size) = some (bodyC o).length) := Lib.hid fun o h => by rw [bodyC_length h]; exact Tryz.is32
  have HX := Lib.hid hx
  have hz : ∀ w, (zeroValue 32).run Tryz.prog w = .ok (.agg (bodyC zeroBody).toArray) w := zero_body
  have R := body_lies (World.rangeAt_alloc (range_box w (bodyC x) 32) (.cells (bodyC zeroBody).toArray 32)) hx
  have x0 : ((w.alloc (.cells (bodyC x).toArray 32)).alloc (.cells (bodyC zeroBody).toArray 32)).cell? ⟨w.heap.size, 0, none⟩ = some (.int .u8 5) := R.kind.trans (by rw [HKI.out]; rfl)
  have x1 : ((w.alloc (.cells (bodyC x).toArray 32)).alloc (.cells (bodyC zeroBody).toArray 32)).cell? ⟨w.heap.size, 1, none⟩ = some (.int .u64 (x.view : Int)) := R.view
  have HZ : Hid (OwAt w x zeroBody ((w.alloc (.cells (bodyC x).toArray 32)).alloc (.cells (bodyC zeroBody).toArray 32))) := Lib.hid ⟨((Below.refl _ _).alloc (Nat.le_refl _) _).alloc (by simp) _, by simp, World.rangeAt_alloc (range_box w (bodyC x) 32) _, by simpa using heap_alloc_new (w.alloc (.cells (bodyC x).toArray 32)) (.cells (bodyC zeroBody).toArray 32)⟩
  have HLE : Hid (0 + (bodyC { zeroBody with kind := 5, view := x.view }).length ≤ (bodyC zeroBody).length ∧ setAll (bodyC zeroBody) 0 (bodyC { zeroBody with kind := 5, view := x.view }) = bodyC { zeroBody with kind := 5, view := x.view }) := Lib.hid ⟨by rw [bodyC_length zero_wf, bodyC_length ⟨rfl, rfl⟩]; omega, setAll_all (by rw [bodyC_length zero_wf, bodyC_length ⟨rfl, rfl⟩])⟩
  clear R hx
  go_enter Tryz.func62, Tryz.ntmps62
  go_wp2_with ((refine wpList_store_part rfl 32 (.tmp 2) (.tmp 8) rfl (w.heap.size + 1) 0 (bodyC zeroBody) (bodyC { zeroBody with kind := 5, view := x.view }) (bodyC { zeroBody with kind := 5, view := x.view }) 32 HZ.out.own (HLE.out.1) (HLE.out.2) rfl rfl (HK.out _ ⟨rfl, rfl⟩) (one_bodyC _) ?_; intro w1 G1; have H1 := Lib.hid (HZ.out.grown G1.out); clear G1 HZ x0 x1; have y0 : w1.cell? ⟨w.heap.size, 0, none⟩ = some (.int .u8 5) := (body_lies H1.out.src HX.out).kind.trans (by rw [HKI.out]; rfl); have y1 : w1.cell? ⟨w.heap.size, 1, none⟩ = some (.int .u64 (x.view : Int)) := (body_lies H1.out.src HX.out).view; have y2 : w1.cell? ⟨w.heap.size, 2, none⟩ = some (.int .u64 (x.k : Int)) := (body_lies H1.out.src HX.out).k; have y43 : w1.cell? ⟨w.heap.size, 43, none⟩ = some (.slice x.qa x.qs.length x.qc) := (body_lies H1.out.src HX.out).q; have z2 : w1.cell? ⟨w.heap.size + 1, 2, none⟩ = some (.int .u64 0) := H1.out.cell 2 _ rfl; have z43 : w1.cell? ⟨w.heap.size + 1, 43, none⟩ = some (.slice none 0 0) := H1.out.cell 43 _ rfl; have hf := fun k => free_block H1.out.own k))
  refine wp_region_any (by kernel_rfl) ?_
  have H3 := Lib.hid (H1.out.drewN 1)
  change wpAny _ _ _ _ _ _ _ (w1.drewN 1)
  generalize w1.drewN 1 = w3 at H3 ⊢
  refine wpAny_of_held (S := fun W => OwAt w x ({ zeroBody with kind := 5, view := x.view }) W) _ _ _ _ ?_
  refine wpAnyH_take (i := 0) (oi := { dst := some 32, op := Op.load 32 (Operand.tmp 2), type := 32, pos := "message.go:116", after := #[], guard := none }) (v := .agg (bodyC ({ zeroBody with kind := 5, view := x.view })).toArray) rfl (by kernel_rfl) (by kernel_rfl) (by kernel_rfl) (fun _ _ _ h => h) (Or.inl ⟨by kernel_rfl, fun W hSW => exec_load_mid 32 (.tmp 2) rfl (w.heap.size + 1) 0 rfl (bodyC ({ zeroBody with kind := 5, view := x.view })) _ (range_of hSW.own) Tryz.underlying32 rfl (HK.out _ ⟨rfl, rfl⟩)⟩) (H3.out) ?_
  try simp only [Act.put, List.setIfInBounds_toArray, List.set_cons_zero, List.set_cons_succ]
  refine wpAnyH_take (i := 1) (oi := { dst := some 33, op := Op.fieldAddr 32 (Operand.tmp 1) 1, type := 0, pos := "message.go:116", after := #[{ on := 4, ground := Ground.gcOnly Departure.lateStores }], guard := none }) (v := .pointer (some ⟨w.heap.size, 1, none⟩)) rfl (by kernel_rfl) (by kernel_rfl) (by kernel_rfl) (fun _ _ _ h => h) (Or.inl ⟨by kernel_rfl, fun W hSW => by go_simp⟩) (H3.out) ?_
  try simp only [Act.put, List.setIfInBounds_toArray, List.set_cons_zero, List.set_cons_succ]
  refine wpAnyH_take (i := 2) (oi := { dst := some 34, op := Op.load 22 (Operand.tmp 33), type := 22, pos := "message.go:116", after := #[{ on := 1, ground := Ground.data }, { on := 4, ground := Ground.gcOnly Departure.lateStores }], guard := none }) (v := .int .u64 (x.view : Int)) rfl (by kernel_rfl) (by kernel_rfl) (by kernel_rfl) (fun _ _ _ h => h) (Or.inl ⟨by kernel_rfl, fun W hSW => by have hv := (body_lies hSW.src HX.out).view; go_simp⟩) (H3.out) ?_
  try simp only [Act.put, List.setIfInBounds_toArray, List.set_cons_zero, List.set_cons_succ]
  refine wpAnyH_take (i := 3) (oi := { dst := some 35, op := Op.binOp BinOp.geq 22 (Operand.tmp 34) (Operand.const (Value.int IntKind.u64 1)) 22, type := 4, pos := "message.go:116", after := #[{ on := 2, ground := Ground.data }, { on := 4, ground := Ground.gcOnly Departure.lateStores }], guard := none }) (v := .bool (decide (1 ≤ x.view))) rfl (by kernel_rfl) (by kernel_rfl) (by kernel_rfl) (fun _ _ _ h => h) (Or.inl ⟨by kernel_rfl, fun W hSW => by go_simp; omega⟩) (H3.out) ?_
  try simp only [Act.put, List.setIfInBounds_toArray, List.set_cons_zero, List.set_cons_succ]
  refine wpAnyH_ready (rs := [4]) (by kernel_rfl) (by simp) ?_
  refine AllReadyH.cons (o := { dst := none, op := Op.store 32 (Operand.tmp 2) (Operand.tmp 32), type := 0, pos := "message.go:116", after := #[{ on := 0, ground := Ground.data }, { on := 0, ground := Ground.phase }, { on := 1, ground := Ground.textOnly Departure.lateStores }, { on := 2, ground := Ground.textOnly Departure.lateStores }, { on := 3, ground := Ground.textOnly Departure.lateStores }], guard := none }) rfl (fun K' hK' => ?_) AllReadyH.nil
  refine step_store_cells rfl 32 (.tmp 2) (.tmp 32) rfl (w.heap.size + 1) 0 (bodyC ({ zeroBody with kind := 5, view := x.view })) rfl rfl (there_block H3.out.own 0 _ (by rw [Nat.zero_add]; exact Nat.le_refl _)) (HK.out _ ⟨rfl, rfl⟩) (one_bodyC _) ?_
  have H5 := Lib.hid (H3.out.same)
  refine hK'.out _ _ H5.out (fun _ => ?_)
  clear hK' K'
  refine wpAnyH_take (i := 5) (oi := { dst := some 3, op := Op.assign (Operand.tmp 35), type := 4, pos := "message.go:116", after := #[{ on := 3, ground := Ground.data }, { on := 4, ground := Ground.chain }, { on := 0, ground := Ground.phase }, { on := 1, ground := Ground.phase }, { on := 2, ground := Ground.phase }, { on := 3, ground := Ground.phase }, { on := 4, ground := Ground.phase }], guard := none }) (v := .bool (decide (1 ≤ x.view))) rfl (by kernel_rfl) (by kernel_rfl) (by kernel_rfl) (fun _ _ _ h => h) (Or.inl ⟨by kernel_rfl, fun W hSW => by go_simp⟩) (H5.out) ?_
  try simp only [Act.put, List.setIfInBounds_toArray, List.set_cons_zero, List.set_cons_succ]
  refine wpAnyH_done (by kernel_rfl) ?_ _
  go_wp2_with fail
  exact bodyPost_ret (H5.out.res ⟨rfl, rfl⟩ rfl rfl) rfl ⟨rfl, Lib.hid H5.out.bel⟩
set_option maxHeartbeats 4000000 in
theorem own_1 (x : MBody) (w : World) (hx : x.Wf) (HKI : Hid (x.kind = 1)) :
    Calls Tryz.prog 62 #[.agg (bodyC x).toArray] w fun E w' => E = .returned (.tuple #[.agg (bodyC ({ zeroBody with kind := 1, view := x.view, req := x.req })).toArray, .bool (reqMay x.req)]) ∧ Hid (Below w.heap.size w w') := by
  have HK : Hid (∀ o : MBody, o.Wf → (Tryz.prog.info? 32).map (·.size) = some (bodyC o).length) := Lib.hid fun o h => by rw [bodyC_length h]; exact Tryz.is32
  have HX := Lib.hid hx
  have hz : ∀ w, (zeroValue 32).run Tryz.prog w = .ok (.agg (bodyC zeroBody).toArray) w := zero_body
  have R := body_lies (World.rangeAt_alloc (range_box w (bodyC x) 32) (.cells (bodyC zeroBody).toArray 32)) hx
  have x0 : ((w.alloc (.cells (bodyC x).toArray 32)).alloc (.cells (bodyC zeroBody).toArray 32)).cell? ⟨w.heap.size, 0, none⟩ = some (.int .u8 1) := R.kind.trans (by rw [HKI.out]; rfl)
  have x1 : ((w.alloc (.cells (bodyC x).toArray 32)).alloc (.cells (bodyC zeroBody).toArray 32)).cell? ⟨w.heap.size, 1, none⟩ = some (.int .u64 (x.view : Int)) := R.view
  have HZ : Hid (OwAt w x zeroBody ((w.alloc (.cells (bodyC x).toArray 32)).alloc (.cells (bodyC zeroBody).toArray 32))) := Lib.hid ⟨((Below.refl _ _).alloc (Nat.le_refl _) _).alloc (by simp) _, by simp, World.rangeAt_alloc (range_box w (bodyC x) 32) _, by simpa using heap_alloc_new (w.alloc (.cells (bodyC x).toArray 32)) (.cells (bodyC zeroBody).toArray 32)⟩
  have HLE : Hid (0 + (bodyC { zeroBody with kind := 1, view := x.view }).length ≤ (bodyC zeroBody).length ∧ setAll (bodyC zeroBody) 0 (bodyC { zeroBody with kind := 1, view := x.view }) = bodyC { zeroBody with kind := 1, view := x.view }) := Lib.hid ⟨by rw [bodyC_length zero_wf, bodyC_length ⟨rfl, rfl⟩]; omega, setAll_all (by rw [bodyC_length zero_wf, bodyC_length ⟨rfl, rfl⟩])⟩
  have HA := Lib.hid (asked_ms x.req)
  have HIR : Hid ((Tryz.prog.info? 29).map (·.size) = some (reqC x.req).length) := Lib.hid (by rw [reqC_length hx.1]; exact Tryz.is29)
  have HSL : Hid (3 + (reqC x.req).length ≤ (bodyC ({ zeroBody with kind := 1, view := x.view })).length ∧ setAll (bodyC ({ zeroBody with kind := 1, view := x.view })) 3 (reqC x.req) = bodyC ({ zeroBody with kind := 1, view := x.view, req := x.req })) := Lib.hid ⟨by rw [reqC_length hx.1, bodyC_length ⟨rfl, rfl⟩]; decide, set_req ({ zeroBody with kind := 1, view := x.view }) x.req rfl hx.1⟩
  clear R hx
  go_enter Tryz.func62, Tryz.ntmps62
  go_wp2_with (first | (refine wpList_store_part rfl 32 (.tmp 2) (.tmp 8) rfl (w.heap.size + 1) 0 (bodyC zeroBody) (bodyC { zeroBody with kind := 1, view := x.view }) (bodyC { zeroBody with kind := 1, view := x.view }) 32 HZ.out.own (HLE.out.1) (HLE.out.2) rfl rfl (HK.out _ ⟨rfl, rfl⟩) (one_bodyC _) ?_; intro w1 G1; have H1 := Lib.hid (HZ.out.grown G1.out); clear G1 HZ x0 x1; have y0 : w1.cell? ⟨w.heap.size, 0, none⟩ = some (.int .u8 1) := (body_lies H1.out.src HX.out).kind.trans (by rw [HKI.out]; rfl); have y1 : w1.cell? ⟨w.heap.size, 1, none⟩ = some (.int .u64 (x.view : Int)) := (body_lies H1.out.src HX.out).view; have y2 : w1.cell? ⟨w.heap.size, 2, none⟩ = some (.int .u64 (x.k : Int)) := (body_lies H1.out.src HX.out).k; have y43 : w1.cell? ⟨w.heap.size, 43, none⟩ = some (.slice x.qa x.qs.length x.qc) := (body_lies H1.out.src HX.out).q; have z2 : w1.cell? ⟨w.heap.size + 1, 2, none⟩ = some (.int .u64 0) := H1.out.cell 2 _ rfl; have z43 : w1.cell? ⟨w.heap.size + 1, 43, none⟩ = some (.slice none 0 0) := H1.out.cell 43 _ rfl; have hf := fun k => free_block H1.out.own k) | ((with_reducible refine wpList_load_midG ?_ 29 (.tmp 13) ?_ w.heap.size 3 ?_ (reqC x.req) _ ?_ Tryz.underlying29 ?_ ?_ ?_); (· rfl); (· rfl); (· rfl); (· exact ((body_lies H1.out.src HX.out).req.all)); (· rfl); (· exact HIR.out)) | (refine wpList_store_part rfl 29 (.tmp 15) (.tmp 14) rfl (w.heap.size + 1) 3 (bodyC ({ zeroBody with kind := 1, view := x.view })) (bodyC ({ zeroBody with kind := 1, view := x.view, req := x.req })) (reqC x.req) 32 H1.out.own HSL.out.1 HSL.out.2 rfl rfl HIR.out (one_reqC _) ?_; intro w2 G2; have H2 := Lib.hid (H1.out.grown G2.out); clear G2 y0 y1 y2 y43 z2 z43 hf))
  refine wp_region_any (by kernel_rfl) ?_
  have H3 := Lib.hid (H2.out.drewN 1)
  change wpAny _ _ _ _ _ _ _ (w2.drewN 1)
  generalize w2.drewN 1 = w3 at H3 ⊢
  refine wpAny_of_held (S := fun W => OwAt w x ({ zeroBody with kind := 1, view := x.view, req := x.req }) W) _ _ _ _ ?_
  refine wpAnyH_take (i := 0) (oi := { dst := some 16, op := Op.load 32 (Operand.tmp 2), type := 32, pos := "message.go:111", after := #[], guard := none }) (v := .agg (bodyC ({ zeroBody with kind := 1, view := x.view, req := x.req })).toArray) rfl (by kernel_rfl) (by kernel_rfl) (by kernel_rfl) (fun _ _ _ h => h) (Or.inl ⟨by kernel_rfl, fun W hSW => exec_load_mid 32 (.tmp 2) rfl (w.heap.size + 1) 0 rfl (bodyC ({ zeroBody with kind := 1, view := x.view, req := x.req })) _ (range_of hSW.own) Tryz.underlying32 rfl (HK.out _ ⟨HX.out.1, rfl⟩)⟩) (H3.out) ?_
  try simp only [Act.put, List.setIfInBounds_toArray, List.set_cons_zero, List.set_cons_succ]
  refine wpAnyH_take (i := 1) (oi := { dst := some 17, op := Op.fieldAddr 32 (Operand.tmp 1) 3, type := 0, pos := "message.go:111", after := #[], guard := none }) (v := .pointer (some ⟨w.heap.size, 3, none⟩)) rfl (by kernel_rfl) (by kernel_rfl) (by kernel_rfl) (fun _ _ _ h => h) (Or.inl ⟨by kernel_rfl, fun W hSW => by go_simp⟩) (H3.out) ?_
  try simp only [Act.put, List.setIfInBounds_toArray, List.set_cons_zero, List.set_cons_succ]
  refine wpAnyH_take (i := 2) (oi := { dst := some 18, op := Op.load 29 (Operand.tmp 17), type := 29, pos := "message.go:111", after := #[{ on := 1, ground := Ground.data }], guard := none }) (v := .agg (reqC x.req).toArray) rfl (by kernel_rfl) (by kernel_rfl) (by kernel_rfl) (fun _ _ _ h => h) (Or.inl ⟨by kernel_rfl, fun W hSW => exec_load_mid 29 (.tmp 17) rfl w.heap.size 3 rfl (reqC x.req) _ ((body_lies hSW.src HX.out).req.all) Tryz.underlying29 rfl (HIR.out)⟩) (H3.out) ?_
  try simp only [Act.put, List.setIfInBounds_toArray, List.set_cons_zero, List.set_cons_succ]
  refine wpAnyH_ready (rs := [3]) (by kernel_rfl) (by simp) ?_
  refine AllReadyH.cons (o := { dst := some 19, op := Op.call { callee := Callee.value (Operand.func 27), args := #[Operand.tmp 18], argTypes := #[29] }, type := 4, pos := "message.go:111", after := #[{ on := 2, ground := Ground.data }], guard := none }) rfl (fun K' hK' => ?_) AllReadyH.nil
  go_simp
  go_at_call 27
  refine (HA.out w3).mono ?_
  rintro E w4 ⟨rfl, hb⟩
  have H4 := Lib.hid (H3.out.next hb)
  clear hb
  refine hK'.out _ _ H4.out (fun _ => ?_)
  clear hK' K'
  try simp only [Act.put, List.setIfInBounds_toArray, List.set_cons_zero, List.set_cons_succ]
  refine wpAnyH_ready (rs := [4]) (by kernel_rfl) (by simp) ?_
  refine AllReadyH.cons (o := { dst := none, op := Op.store 32 (Operand.tmp 2) (Operand.tmp 16), type := 0, pos := "message.go:111", after := #[{ on := 0, ground := Ground.data }, { on := 3, ground := Ground.chain }, { on := 0, ground := Ground.phase }, { on := 1, ground := Ground.textOnly Departure.lateStores }, { on := 2, ground := Ground.textOnly Departure.lateStores }, { on := 3, ground := Ground.textOnly Departure.lateStoresUnsure }], guard := none }) rfl (fun K' hK' => ?_) AllReadyH.nil
  refine step_store_cells rfl 32 (.tmp 2) (.tmp 16) rfl (w.heap.size + 1) 0 (bodyC ({ zeroBody with kind := 1, view := x.view, req := x.req })) rfl rfl (there_block H4.out.own 0 _ (by rw [Nat.zero_add]; exact Nat.le_refl _)) (HK.out _ ⟨HX.out.1, rfl⟩) (one_bodyC _) ?_
  have H5 := Lib.hid (H4.out.same)
  refine hK'.out _ _ H5.out (fun _ => ?_)
  clear hK' K'
  refine wpAnyH_take (i := 5) (oi := { dst := some 3, op := Op.assign (Operand.tmp 19), type := 4, pos := "message.go:111", after := #[{ on := 3, ground := Ground.data }, { on := 4, ground := Ground.chain }, { on := 0, ground := Ground.phase }, { on := 1, ground := Ground.phase }, { on := 2, ground := Ground.phase }, { on := 3, ground := Ground.phase }, { on := 4, ground := Ground.phase }], guard := none }) (v := .bool (reqMay x.req)) rfl (by kernel_rfl) (by kernel_rfl) (by kernel_rfl) (fun _ _ _ h => h) (Or.inl ⟨by kernel_rfl, fun W hSW => by go_simp⟩) (H5.out) ?_
  try simp only [Act.put, List.setIfInBounds_toArray, List.set_cons_zero, List.set_cons_succ]
  refine wpAnyH_done (by kernel_rfl) ?_ _
  go_wp2_with fail
  exact bodyPost_ret (H5.out.res ⟨HX.out.1, rfl⟩ rfl rfl) rfl ⟨rfl, Lib.hid H5.out.bel⟩
set_option maxHeartbeats 4000000 in
theorem own_2 (x : MBody) (w : World) (hx : x.Wf) (HKI : Hid (x.kind = 2)) :
    Calls Tryz.prog 62 #[.agg (bodyC x).toArray] w fun E w' => E = .returned (.tuple #[.agg (bodyC ({ zeroBody with kind := 2, view := x.view, k := x.k })).toArray, .bool (isCnt x.k)]) ∧ Hid (Below w.heap.size w w') := by
  have HK : Hid (∀ o : MBody, o.Wf → (Tryz.prog.info? 32).map (·.size) = some (bodyC o).length) := Lib.hid fun o h => by rw [bodyC_length h]; exact Tryz.is32
  have HX := Lib.hid hx
  have hz : ∀ w, (zeroValue 32).run Tryz.prog w = .ok (.agg (bodyC zeroBody).toArray) w := zero_body
  have R := body_lies (World.rangeAt_alloc (range_box w (bodyC x) 32) (.cells (bodyC zeroBody).toArray 32)) hx
  have x0 : ((w.alloc (.cells (bodyC x).toArray 32)).alloc (.cells (bodyC zeroBody).toArray 32)).cell? ⟨w.heap.size, 0, none⟩ = some (.int .u8 2) := R.kind.trans (by rw [HKI.out]; rfl)
  have x1 : ((w.alloc (.cells (bodyC x).toArray 32)).alloc (.cells (bodyC zeroBody).toArray 32)).cell? ⟨w.heap.size, 1, none⟩ = some (.int .u64 (x.view : Int)) := R.view
  have HZ : Hid (OwAt w x zeroBody ((w.alloc (.cells (bodyC x).toArray 32)).alloc (.cells (bodyC zeroBody).toArray 32))) := Lib.hid ⟨((Below.refl _ _).alloc (Nat.le_refl _) _).alloc (by simp) _, by simp, World.rangeAt_alloc (range_box w (bodyC x) 32) _, by simpa using heap_alloc_new (w.alloc (.cells (bodyC x).toArray 32)) (.cells (bodyC zeroBody).toArray 32)⟩
  have HLE : Hid (0 + (bodyC { zeroBody with kind := 2, view := x.view }).length ≤ (bodyC zeroBody).length ∧ setAll (bodyC zeroBody) 0 (bodyC { zeroBody with kind := 2, view := x.view }) = bodyC { zeroBody with kind := 2, view := x.view }) := Lib.hid ⟨by rw [bodyC_length zero_wf, bodyC_length ⟨rfl, rfl⟩]; omega, setAll_all (by rw [bodyC_length zero_wf, bodyC_length ⟨rfl, rfl⟩])⟩
  have HA := Lib.hid (isCount_ms x.k)
  clear R hx
  go_enter Tryz.func62, Tryz.ntmps62
  go_wp2_with ((refine wpList_store_part rfl 32 (.tmp 2) (.tmp 8) rfl (w.heap.size + 1) 0 (bodyC zeroBody) (bodyC { zeroBody with kind := 2, view := x.view }) (bodyC { zeroBody with kind := 2, view := x.view }) 32 HZ.out.own (HLE.out.1) (HLE.out.2) rfl rfl (HK.out _ ⟨rfl, rfl⟩) (one_bodyC _) ?_; intro w1 G1; have H1 := Lib.hid (HZ.out.grown G1.out); clear G1 HZ x0 x1; have y0 : w1.cell? ⟨w.heap.size, 0, none⟩ = some (.int .u8 2) := (body_lies H1.out.src HX.out).kind.trans (by rw [HKI.out]; rfl); have y1 : w1.cell? ⟨w.heap.size, 1, none⟩ = some (.int .u64 (x.view : Int)) := (body_lies H1.out.src HX.out).view; have y2 : w1.cell? ⟨w.heap.size, 2, none⟩ = some (.int .u64 (x.k : Int)) := (body_lies H1.out.src HX.out).k; have y43 : w1.cell? ⟨w.heap.size, 43, none⟩ = some (.slice x.qa x.qs.length x.qc) := (body_lies H1.out.src HX.out).q; have z2 : w1.cell? ⟨w.heap.size + 1, 2, none⟩ = some (.int .u64 0) := H1.out.cell 2 _ rfl; have z43 : w1.cell? ⟨w.heap.size + 1, 43, none⟩ = some (.slice none 0 0) := H1.out.cell 43 _ rfl; have hf := fun k => free_block H1.out.own k))
  have H2 := Lib.hid (H1.out.set 2 (.int .u64 (x.k : Int)) (o' := { zeroBody with kind := 2, view := x.view, k := x.k }) rfl)
  clear H1 y0 y1 y2 y43 z2 z43 hf
  generalize w1.setCell ⟨w.heap.size + 1, 2, none⟩ (.int .u64 (x.k : Int)) = w2 at H2 ⊢
  refine wp_region_any (by kernel_rfl) ?_
  have H3 := Lib.hid (H2.out.drewN 1)
  change wpAny _ _ _ _ _ _ _ (w2.drewN 1)
  generalize w2.drewN 1 = w3 at H3 ⊢
  refine wpAny_of_held (S := fun W => OwAt w x ({ zeroBody with kind := 2, view := x.view, k := x.k }) W) _ _ _ _ ?_
  refine wpAnyH_take (i := 0) (oi := { dst := some 25, op := Op.load 32 (Operand.tmp 2), type := 32, pos := "message.go:114", after := #[], guard := none }) (v := .agg (bodyC ({ zeroBody with kind := 2, view := x.view, k := x.k })).toArray) rfl (by kernel_rfl) (by kernel_rfl) (by kernel_rfl) (fun _ _ _ h => h) (Or.inl ⟨by kernel_rfl, fun W hSW => exec_load_mid 32 (.tmp 2) rfl (w.heap.size + 1) 0 rfl (bodyC ({ zeroBody with kind := 2, view := x.view, k := x.k })) _ (range_of hSW.own) Tryz.underlying32 rfl (HK.out _ ⟨rfl, rfl⟩)⟩) (H3.out) ?_
  try simp only [Act.put, List.setIfInBounds_toArray, List.set_cons_zero, List.set_cons_succ]
  refine wpAnyH_take (i := 1) (oi := { dst := some 26, op := Op.fieldAddr 32 (Operand.tmp 1) 2, type := 0, pos := "message.go:114", after := #[], guard := none }) (v := .pointer (some ⟨w.heap.size, 2, none⟩)) rfl (by kernel_rfl) (by kernel_rfl) (by kernel_rfl) (fun _ _ _ h => h) (Or.inl ⟨by kernel_rfl, fun W hSW => by go_simp⟩) (H3.out) ?_
  try simp only [Act.put, List.setIfInBounds_toArray, List.set_cons_zero, List.set_cons_succ]
  refine wpAnyH_take (i := 2) (oi := { dst := some 27, op := Op.load 22 (Operand.tmp 26), type := 22, pos := "message.go:114", after := #[{ on := 1, ground := Ground.data }], guard := none }) (v := .int .u64 (x.k : Int)) rfl (by kernel_rfl) (by kernel_rfl) (by kernel_rfl) (fun _ _ _ h => h) (Or.inl ⟨by kernel_rfl, fun W hSW => by have hv := (body_lies hSW.src HX.out).k; go_simp⟩) (H3.out) ?_
  try simp only [Act.put, List.setIfInBounds_toArray, List.set_cons_zero, List.set_cons_succ]
  refine wpAnyH_ready (rs := [3]) (by kernel_rfl) (by simp) ?_
  refine AllReadyH.cons (o := { dst := some 28, op := Op.call { callee := Callee.value (Operand.func 55), args := #[Operand.tmp 27], argTypes := #[22] }, type := 4, pos := "message.go:114", after := #[{ on := 2, ground := Ground.data }], guard := none }) rfl (fun K' hK' => ?_) AllReadyH.nil
  go_simp
  go_at_call 55
  refine (HA.out w3).mono ?_
  rintro E w4 ⟨rfl, rfl⟩
  have H4 := H3
  skip
  refine hK'.out _ _ H4.out (fun _ => ?_)
  clear hK' K'
  try simp only [Act.put, List.setIfInBounds_toArray, List.set_cons_zero, List.set_cons_succ]
  refine wpAnyH_ready (rs := [4]) (by kernel_rfl) (by simp) ?_
  refine AllReadyH.cons (o := { dst := none, op := Op.store 32 (Operand.tmp 2) (Operand.tmp 25), type := 0, pos := "message.go:114", after := #[{ on := 0, ground := Ground.data }, { on := 3, ground := Ground.chain }, { on := 0, ground := Ground.phase }, { on := 1, ground := Ground.textOnly Departure.lateStores }, { on := 2, ground := Ground.textOnly Departure.lateStores }, { on := 3, ground := Ground.textOnly Departure.lateStoresUnsure }], guard := none }) rfl (fun K' hK' => ?_) AllReadyH.nil
  refine step_store_cells rfl 32 (.tmp 2) (.tmp 25) rfl (w.heap.size + 1) 0 (bodyC ({ zeroBody with kind := 2, view := x.view, k := x.k })) rfl rfl (there_block H4.out.own 0 _ (by rw [Nat.zero_add]; exact Nat.le_refl _)) (HK.out _ ⟨rfl, rfl⟩) (one_bodyC _) ?_
  have H5 := Lib.hid (H4.out.same)
  refine hK'.out _ _ H5.out (fun _ => ?_)
  clear hK' K'
  refine wpAnyH_take (i := 5) (oi := { dst := some 3, op := Op.assign (Operand.tmp 28), type := 4, pos := "message.go:114", after := #[{ on := 3, ground := Ground.data }, { on := 4, ground := Ground.chain }, { on := 0, ground := Ground.phase }, { on := 1, ground := Ground.phase }, { on := 2, ground := Ground.phase }, { on := 3, ground := Ground.phase }, { on := 4, ground := Ground.phase }], guard := none }) (v := .bool (isCnt x.k)) rfl (by kernel_rfl) (by kernel_rfl) (by kernel_rfl) (fun _ _ _ h => h) (Or.inl ⟨by kernel_rfl, fun W hSW => by go_simp⟩) (H5.out) ?_
  try simp only [Act.put, List.setIfInBounds_toArray, List.set_cons_zero, List.set_cons_succ]
  refine wpAnyH_done (by kernel_rfl) ?_ _
  go_wp2_with fail
  exact bodyPost_ret (H5.out.res ⟨rfl, rfl⟩ rfl rfl) rfl ⟨rfl, Lib.hid H5.out.bel⟩
set_option maxHeartbeats 4000000 in
theorem own_x (x : MBody) (w : World) (hx : x.Wf) (h1 : ¬ ((x.kind.toNat : Int) = 1)) (h2 : ¬ ((x.kind.toNat : Int) = 2)) (h3 : ¬ ((x.kind.toNat : Int) = 3)) (h4 : ¬ ((x.kind.toNat : Int) = 4)) (h5 : ¬ ((x.kind.toNat : Int) = 5)) (h6 : ¬ ((x.kind.toNat : Int) = 6)) :
    Calls Tryz.prog 62 #[.agg (bodyC x).toArray] w fun E w' => E = .returned (.tuple #[.agg (bodyC ({ zeroBody with kind := x.kind, view := x.view })).toArray, .bool (false)]) ∧ Hid (Below w.heap.size w w') := by
  have HK : Hid (∀ o : MBody, o.Wf → (Tryz.prog.info? 32).map (·.size) = some (bodyC o).length) := Lib.hid fun o h => by rw [bodyC_length h]; exact Tryz.is32
  have HX := Lib.hid hx
  have hz : ∀ w, (zeroValue 32).run Tryz.prog w = .ok (.agg (bodyC zeroBody).toArray) w := zero_body
  have R := body_lies (World.rangeAt_alloc (range_box w (bodyC x) 32) (.cells (bodyC zeroBody).toArray 32)) hx
  have x0 : ((w.alloc (.cells (bodyC x).toArray 32)).alloc (.cells (bodyC zeroBody).toArray 32)).cell? ⟨w.heap.size, 0, none⟩ = some (.int .u8 (x.kind.toNat : Int)) := R.kind.trans rfl
  have x1 : ((w.alloc (.cells (bodyC x).toArray 32)).alloc (.cells (bodyC zeroBody).toArray 32)).cell? ⟨w.heap.size, 1, none⟩ = some (.int .u64 (x.view : Int)) := R.view
  have HZ : Hid (OwAt w x zeroBody ((w.alloc (.cells (bodyC x).toArray 32)).alloc (.cells (bodyC zeroBody).toArray 32))) := Lib.hid ⟨((Below.refl _ _).alloc (Nat.le_refl _) _).alloc (by simp) _, by simp, World.rangeAt_alloc (range_box w (bodyC x) 32) _, by simpa using heap_alloc_new (w.alloc (.cells (bodyC x).toArray 32)) (.cells (bodyC zeroBody).toArray 32)⟩
  have HLE : Hid (0 + (bodyC { zeroBody with kind := x.kind, view := x.view }).length ≤ (bodyC zeroBody).length ∧ setAll (bodyC zeroBody) 0 (bodyC { zeroBody with kind := x.kind, view := x.view }) = bodyC { zeroBody with kind := x.kind, view := x.view }) := Lib.hid ⟨by rw [bodyC_length zero_wf, bodyC_length ⟨rfl, rfl⟩]; omega, setAll_all (by rw [bodyC_length zero_wf, bodyC_length ⟨rfl, rfl⟩])⟩
  clear R hx
  go_enter Tryz.func62, Tryz.ntmps62
  go_wp2_with (first | (refine wpList_store_part rfl 32 (.tmp 2) (.tmp 8) rfl (w.heap.size + 1) 0 (bodyC zeroBody) (bodyC { zeroBody with kind := x.kind, view := x.view }) (bodyC { zeroBody with kind := x.kind, view := x.view }) 32 HZ.out.own (HLE.out.1) (HLE.out.2) rfl rfl (HK.out _ ⟨rfl, rfl⟩) (one_bodyC _) ?_; intro w1 G1; have H1 := Lib.hid (HZ.out.grown G1.out); clear G1 HZ x0 x1; have y0 : w1.cell? ⟨w.heap.size, 0, none⟩ = some (.int .u8 (x.kind.toNat : Int)) := (body_lies H1.out.src HX.out).kind.trans rfl; have y1 : w1.cell? ⟨w.heap.size, 1, none⟩ = some (.int .u64 (x.view : Int)) := (body_lies H1.out.src HX.out).view; have y2 : w1.cell? ⟨w.heap.size, 2, none⟩ = some (.int .u64 (x.k : Int)) := (body_lies H1.out.src HX.out).k; have y43 : w1.cell? ⟨w.heap.size, 43, none⟩ = some (.slice x.qa x.qs.length x.qc) := (body_lies H1.out.src HX.out).q; have z2 : w1.cell? ⟨w.heap.size + 1, 2, none⟩ = some (.int .u64 0) := H1.out.cell 2 _ rfl; have z43 : w1.cell? ⟨w.heap.size + 1, 43, none⟩ = some (.slice none 0 0) := H1.out.cell 43 _ rfl; have hf := fun k => free_block H1.out.own k) | ((with_reducible refine wpList_load_midG ?_ 32 (.tmp 2) ?_ (w.heap.size + 1) 0 ?_ (bodyC ({ zeroBody with kind := x.kind, view := x.view })) _ ?_ Tryz.underlying32 ?_ ?_ ?_); (· rfl); (· rfl); (· rfl); (· exact range_of H1.out.own); (· rfl); (· exact HK.out _ ⟨rfl, rfl⟩)) | (refine wpList_store_part rfl 32 (.tmp 2) (.tmp 63) rfl (w.heap.size + 1) 0 (bodyC ({ zeroBody with kind := x.kind, view := x.view })) (bodyC ({ zeroBody with kind := x.kind, view := x.view })) (bodyC ({ zeroBody with kind := x.kind, view := x.view })) 32 H1.out.own (by rw [Nat.zero_add]; exact Nat.le_refl _) (setAll_all rfl) rfl rfl (HK.out _ ⟨rfl, rfl⟩) (one_bodyC _) ?_; intro w5 G5; have H5 := Lib.hid (H1.out.grown G5.out)))
  exact bodyPost_ret (H5.out.res ⟨rfl, rfl⟩ rfl rfl) rfl ⟨rfl, Lib.hid H5.out.bel⟩
set_option maxHeartbeats 4000000 in
theorem own_4 (x : MBody) (w : World) (hx : x.Wf) (HKI : Hid (x.kind = 4)) (hq : Prs w x.qa x.qs) (hn : x.qs.length ≤ 140737488355328) (hvw : (1 : Int) ≤ (x.view : Int)) :
    Calls Tryz.prog 62 #[.agg (bodyC x).toArray] w fun E w' => E = .returned (.tuple #[.agg (bodyC ({ zeroBody with kind := 4, view := x.view, qa := x.qa, qc := x.qc, qs := x.qs })).toArray, .bool (prsMay x.qs)]) ∧ Hid (Below w.heap.size w w') := by
  have HK : Hid (∀ o : MBody, o.Wf → (Tryz.prog.info? 32).map (·.size) = some (bodyC o).length) := Lib.hid fun o h => by rw [bodyC_length h]; exact Tryz.is32
  have HX := Lib.hid hx
  have hz : ∀ w, (zeroValue 32).run Tryz.prog w = .ok (.agg (bodyC zeroBody).toArray) w := zero_body
  have R := body_lies (World.rangeAt_alloc (range_box w (bodyC x) 32) (.cells (bodyC zeroBody).toArray 32)) hx
  have x0 : ((w.alloc (.cells (bodyC x).toArray 32)).alloc (.cells (bodyC zeroBody).toArray 32)).cell? ⟨w.heap.size, 0, none⟩ = some (.int .u8 4) := R.kind.trans (by rw [HKI.out]; rfl)
  have x1 : ((w.alloc (.cells (bodyC x).toArray 32)).alloc (.cells (bodyC zeroBody).toArray 32)).cell? ⟨w.heap.size, 1, none⟩ = some (.int .u64 (x.view : Int)) := R.view
  have HZ : Hid (OwAt w x zeroBody ((w.alloc (.cells (bodyC x).toArray 32)).alloc (.cells (bodyC zeroBody).toArray 32))) := Lib.hid ⟨((Below.refl _ _).alloc (Nat.le_refl _) _).alloc (by simp) _, by simp, World.rangeAt_alloc (range_box w (bodyC x) 32) _, by simpa using heap_alloc_new (w.alloc (.cells (bodyC x).toArray 32)) (.cells (bodyC zeroBody).toArray 32)⟩
  have HLE : Hid (0 + (bodyC { zeroBody with kind := 4, view := x.view }).length ≤ (bodyC zeroBody).length ∧ setAll (bodyC zeroBody) 0 (bodyC { zeroBody with kind := 4, view := x.view }) = bodyC { zeroBody with kind := 4, view := x.view }) := Lib.hid ⟨by rw [bodyC_length zero_wf, bodyC_length ⟨rfl, rfl⟩]; omega, setAll_all (by rw [bodyC_length zero_wf, bodyC_length ⟨rfl, rfl⟩])⟩
  have HA : Hid (∀ W, Below w.heap.size w W → Calls Tryz.prog 90 #[.slice x.qa x.qs.length x.qc] W fun E w' => E = .returned (.bool (prsMay x.qs)) ∧ Below W.heap.size W w') := Lib.hid fun W h => mayPairs_ms x.qa x.qc x.qs W (hq.below h) hn
  clear hq hn
  clear R hx
  go_enter Tryz.func62, Tryz.ntmps62
  go_wp2_with ((refine wpList_store_part rfl 32 (.tmp 2) (.tmp 8) rfl (w.heap.size + 1) 0 (bodyC zeroBody) (bodyC { zeroBody with kind := 4, view := x.view }) (bodyC { zeroBody with kind := 4, view := x.view }) 32 HZ.out.own (HLE.out.1) (HLE.out.2) rfl rfl (HK.out _ ⟨rfl, rfl⟩) (one_bodyC _) ?_; intro w1 G1; have H1 := Lib.hid (HZ.out.grown G1.out); clear G1 HZ x0 x1; have y0 : w1.cell? ⟨w.heap.size, 0, none⟩ = some (.int .u8 4) := (body_lies H1.out.src HX.out).kind.trans (by rw [HKI.out]; rfl); have y1 : w1.cell? ⟨w.heap.size, 1, none⟩ = some (.int .u64 (x.view : Int)) := (body_lies H1.out.src HX.out).view; have y2 : w1.cell? ⟨w.heap.size, 2, none⟩ = some (.int .u64 (x.k : Int)) := (body_lies H1.out.src HX.out).k; have y43 : w1.cell? ⟨w.heap.size, 43, none⟩ = some (.slice x.qa x.qs.length x.qc) := (body_lies H1.out.src HX.out).q; have z2 : w1.cell? ⟨w.heap.size + 1, 2, none⟩ = some (.int .u64 0) := H1.out.cell 2 _ rfl; have z43 : w1.cell? ⟨w.heap.size + 1, 43, none⟩ = some (.slice none 0 0) := H1.out.cell 43 _ rfl; have hf := fun k => free_block H1.out.own k))
  have H2 := Lib.hid (H1.out.set 43 (.slice x.qa x.qs.length x.qc) (set_q _ _ _ _ rfl))
  clear H1 y0 y1 y2 y43 z2 z43 hf
  generalize w1.setCell ⟨w.heap.size + 1, 43, none⟩ (.slice x.qa x.qs.length x.qc) = w2 at H2 ⊢
  refine wp_region_any (by kernel_rfl) ?_
  have H3 := Lib.hid (H2.out.drewN 1)
  change wpAny _ _ _ _ _ _ _ (w2.drewN 1)
  generalize w2.drewN 1 = w3 at H3 ⊢
  refine wpAny_of_held (S := fun W => OwAt w x ({ zeroBody with kind := 4, view := x.view, qa := x.qa, qc := x.qc, qs := x.qs }) W) _ _ _ _ ?_
  refine wpAnyH_take (i := 0) (oi := { dst := some 41, op := Op.load 32 (Operand.tmp 2), type := 32, pos := "message.go:119", after := #[], guard := none }) (v := .agg (bodyC ({ zeroBody with kind := 4, view := x.view, qa := x.qa, qc := x.qc, qs := x.qs })).toArray) rfl (by kernel_rfl) (by kernel_rfl) (by kernel_rfl) (fun _ _ _ h => h) (Or.inl ⟨by kernel_rfl, fun W hSW => exec_load_mid 32 (.tmp 2) rfl (w.heap.size + 1) 0 rfl (bodyC ({ zeroBody with kind := 4, view := x.view, qa := x.qa, qc := x.qc, qs := x.qs })) _ (range_of hSW.own) Tryz.underlying32 rfl (HK.out _ ⟨rfl, rfl⟩)⟩) (H3.out) ?_
  try simp only [Act.put, List.setIfInBounds_toArray, List.set_cons_zero, List.set_cons_succ]
  refine wpAnyH_take (i := 1) (oi := { dst := some 42, op := Op.fieldAddr 32 (Operand.tmp 1) 1, type := 0, pos := "message.go:119", after := #[], guard := none }) (v := .pointer (some ⟨w.heap.size, 1, none⟩)) rfl (by kernel_rfl) (by kernel_rfl) (by kernel_rfl) (fun _ _ _ h => h) (Or.inl ⟨by kernel_rfl, fun W hSW => by go_simp⟩) (H3.out) ?_
  try simp only [Act.put, List.setIfInBounds_toArray, List.set_cons_zero, List.set_cons_succ]
  refine wpAnyH_take (i := 2) (oi := { dst := some 43, op := Op.load 22 (Operand.tmp 42), type := 22, pos := "message.go:119", after := #[{ on := 1, ground := Ground.data }], guard := none }) (v := .int .u64 (x.view : Int)) rfl (by kernel_rfl) (by kernel_rfl) (by kernel_rfl) (fun _ _ _ h => h) (Or.inl ⟨by kernel_rfl, fun W hSW => by have hv := (body_lies hSW.src HX.out).view; go_simp⟩) (H3.out) ?_
  try simp only [Act.put, List.setIfInBounds_toArray, List.set_cons_zero, List.set_cons_succ]
  refine wpAnyH_take (i := 3) (oi := { dst := some 44, op := Op.binOp BinOp.geq 22 (Operand.tmp 43) (Operand.const (Value.int IntKind.u64 1)) 22, type := 4, pos := "message.go:119", after := #[{ on := 2, ground := Ground.data }], guard := none }) (v := .bool true) rfl (by kernel_rfl) (by kernel_rfl) (by kernel_rfl) (fun _ _ _ h => h) (Or.inl ⟨by kernel_rfl, fun W hSW => by go_simp⟩) (H3.out) ?_
  try simp only [Act.put, List.setIfInBounds_toArray, List.set_cons_zero, List.set_cons_succ]
  refine wpAnyH_take (i := 4) (oi := { dst := some 45, op := Op.move (Operand.tmp 44), type := 4, pos := "message.go:119", after := #[{ on := 3, ground := Ground.data }], guard := none }) (v := .bool true) rfl (by kernel_rfl) (by kernel_rfl) (by kernel_rfl) (fun _ _ _ h => h) (Or.inl ⟨by kernel_rfl, fun W hSW => by go_simp⟩) (H3.out) ?_
  try simp only [Act.put, List.setIfInBounds_toArray, List.set_cons_zero, List.set_cons_succ]
  refine wpAnyH_take (i := 5) (oi := { dst := some 46, op := Op.fieldAddr 32 (Operand.tmp 1) 4, type := 0, pos := "message.go:119", after := #[{ on := 4, ground := Ground.guard }], guard := some (4, true) }) (v := .pointer (some ⟨w.heap.size, 43, none⟩)) rfl (by kernel_rfl) (by kernel_rfl) (by kernel_rfl) (fun _ _ _ h => h) (Or.inl ⟨by kernel_rfl, fun W hSW => by go_simp⟩) (H3.out) ?_
  try simp only [Act.put, List.setIfInBounds_toArray, List.set_cons_zero, List.set_cons_succ]
  refine wpAnyH_take (i := 6) (oi := { dst := some 47, op := Op.load 30 (Operand.tmp 46), type := 30, pos := "message.go:119", after := #[{ on := 5, ground := Ground.data }, { on := 4, ground := Ground.guard }], guard := some (4, true) }) (v := .slice x.qa x.qs.length x.qc) rfl (by kernel_rfl) (by kernel_rfl) (by kernel_rfl) (fun _ _ _ h => h) (Or.inl ⟨by kernel_rfl, fun W hSW => by have hv : W.cell? ⟨w.heap.size, 43, none⟩ = some (.slice x.qa x.qs.length x.qc) := (body_lies hSW.src HX.out).q; go_simp⟩) (H3.out) ?_
  try simp only [Act.put, List.setIfInBounds_toArray, List.set_cons_zero, List.set_cons_succ]
  refine wpAnyH_ready (rs := [7]) (by kernel_rfl) (by simp) ?_
  refine AllReadyH.cons (o := { dst := some 48, op := Op.call { callee := Callee.value (Operand.func 90), args := #[Operand.tmp 47], argTypes := #[30] }, type := 4, pos := "message.go:119", after := #[{ on := 6, ground := Ground.data }, { on := 4, ground := Ground.chain }, { on := 4, ground := Ground.guard }], guard := some (4, true) }) rfl (fun K' hK' => ?_) AllReadyH.nil
  go_simp
  go_at_call 90
  refine (HA.out w3 H3.out.bel).mono ?_
  rintro E w4 ⟨rfl, hb⟩
  have H4 := Lib.hid (H3.out.next hb)
  clear hb
  refine hK'.out _ _ H4.out (fun _ => ?_)
  clear hK' K'
  try simp only [Act.put, List.setIfInBounds_toArray, List.set_cons_zero, List.set_cons_succ]
  refine wpAnyH_take (i := 8) (oi := { dst := some 49, op := Op.pick (Operand.tmp 45) (Operand.tmp 48) (Operand.const (Value.bool false)), type := 4, pos := "message.go:119", after := #[{ on := 4, ground := Ground.data }, { on := 7, ground := Ground.data }, { on := 9, ground := Ground.gcOnly Departure.lateStores }], guard := none }) (v := .bool (prsMay x.qs)) rfl (by kernel_rfl) (by kernel_rfl) (by kernel_rfl) (fun _ _ _ h => h) (Or.inl ⟨by kernel_rfl, fun W hSW => by go_simp⟩) (H4.out) ?_
  try simp only [Act.put, List.setIfInBounds_toArray, List.set_cons_zero, List.set_cons_succ]
  refine wpAnyH_ready (rs := [9]) (by kernel_rfl) (by simp) ?_
  refine AllReadyH.cons (o := { dst := none, op := Op.store 32 (Operand.tmp 2) (Operand.tmp 41), type := 0, pos := "message.go:119", after := #[{ on := 0, ground := Ground.data }, { on := 7, ground := Ground.chain }, { on := 0, ground := Ground.phase }, { on := 1, ground := Ground.textOnly Departure.lateStores }, { on := 2, ground := Ground.textOnly Departure.lateStores }, { on := 3, ground := Ground.textOnly Departure.lateStores }, { on := 4, ground := Ground.textOnly Departure.lateStores }, { on := 5, ground := Ground.textOnly Departure.lateStores }, { on := 6, ground := Ground.textOnly Departure.lateStores }, { on := 7, ground := Ground.textOnly Departure.lateStoresUnsure }, { on := 8, ground := Ground.textOnly Departure.lateStores }], guard := none }) rfl (fun K' hK' => ?_) AllReadyH.nil
  refine step_store_cells rfl 32 (.tmp 2) (.tmp 41) rfl (w.heap.size + 1) 0 (bodyC ({ zeroBody with kind := 4, view := x.view, qa := x.qa, qc := x.qc, qs := x.qs })) rfl rfl (there_block H4.out.own 0 _ (by rw [Nat.zero_add]; exact Nat.le_refl _)) (HK.out _ ⟨rfl, rfl⟩) (one_bodyC _) ?_
  have H5 := Lib.hid (H4.out.same)
  refine hK'.out _ _ H5.out (fun _ => ?_)
  clear hK' K'
  refine wpAnyH_take (i := 10) (oi := { dst := some 3, op := Op.assign (Operand.tmp 49), type := 4, pos := "message.go:119", after := #[{ on := 8, ground := Ground.data }, { on := 9, ground := Ground.chain }, { on := 0, ground := Ground.phase }, { on := 1, ground := Ground.phase }, { on := 2, ground := Ground.phase }, { on := 3, ground := Ground.phase }, { on := 4, ground := Ground.phase }, { on := 5, ground := Ground.phase }, { on := 6, ground := Ground.phase }, { on := 7, ground := Ground.phase }, { on := 8, ground := Ground.phase }, { on := 9, ground := Ground.phase }], guard := none }) (v := .bool (prsMay x.qs)) rfl (by kernel_rfl) (by kernel_rfl) (by kernel_rfl) (fun _ _ _ h => h) (Or.inl ⟨by kernel_rfl, fun W hSW => by go_simp⟩) (H5.out) ?_
  try simp only [Act.put, List.setIfInBounds_toArray, List.set_cons_zero, List.set_cons_succ]
  refine wpAnyH_done (by kernel_rfl) ?_ _
  go_wp2_with fail
  exact bodyPost_ret (H5.out.res ⟨rfl, rfl⟩ rfl rfl) rfl ⟨rfl, Lib.hid H5.out.bel⟩
set_option maxHeartbeats 4000000 in
theorem own_4n (x : MBody) (w : World) (hx : x.Wf) (HKI : Hid (x.kind = 4)) (hq : Prs w x.qa x.qs) (hn : x.qs.length ≤ 140737488355328) (hvw : ¬ ((1 : Int) ≤ (x.view : Int))) :
    Calls Tryz.prog 62 #[.agg (bodyC x).toArray] w fun E w' => E = .returned (.tuple #[.agg (bodyC ({ zeroBody with kind := 4, view := x.view, qa := x.qa, qc := x.qc, qs := x.qs })).toArray, .bool (false)]) ∧ Hid (Below w.heap.size w w') := by
  have HK : Hid (∀ o : MBody, o.Wf → (Tryz.prog.info? 32).map (·.size) = some (bodyC o).length) := Lib.hid fun o h => by rw [bodyC_length h]; exact Tryz.is32
  have HX := Lib.hid hx
  have hz : ∀ w, (zeroValue 32).run Tryz.prog w = .ok (.agg (bodyC zeroBody).toArray) w := zero_body
  have R := body_lies (World.rangeAt_alloc (range_box w (bodyC x) 32) (.cells (bodyC zeroBody).toArray 32)) hx
  have x0 : ((w.alloc (.cells (bodyC x).toArray 32)).alloc (.cells (bodyC zeroBody).toArray 32)).cell? ⟨w.heap.size, 0, none⟩ = some (.int .u8 4) := R.kind.trans (by rw [HKI.out]; rfl)
  have x1 : ((w.alloc (.cells (bodyC x).toArray 32)).alloc (.cells (bodyC zeroBody).toArray 32)).cell? ⟨w.heap.size, 1, none⟩ = some (.int .u64 (x.view : Int)) := R.view
  have HZ : Hid (OwAt w x zeroBody ((w.alloc (.cells (bodyC x).toArray 32)).alloc (.cells (bodyC zeroBody).toArray 32))) := Lib.hid ⟨((Below.refl _ _).alloc (Nat.le_refl _) _).alloc (by simp) _, by simp, World.rangeAt_alloc (range_box w (bodyC x) 32) _, by simpa using heap_alloc_new (w.alloc (.cells (bodyC x).toArray 32)) (.cells (bodyC zeroBody).toArray 32)⟩
  have HLE : Hid (0 + (bodyC { zeroBody with kind := 4, view := x.view }).length ≤ (bodyC zeroBody).length ∧ setAll (bodyC zeroBody) 0 (bodyC { zeroBody with kind := 4, view := x.view }) = bodyC { zeroBody with kind := 4, view := x.view }) := Lib.hid ⟨by rw [bodyC_length zero_wf, bodyC_length ⟨rfl, rfl⟩]; omega, setAll_all (by rw [bodyC_length zero_wf, bodyC_length ⟨rfl, rfl⟩])⟩
  have HA : Hid (∀ W, Below w.heap.size w W → Calls Tryz.prog 90 #[.slice x.qa x.qs.length x.qc] W fun E w' => E = .returned (.bool (prsMay x.qs)) ∧ Below W.heap.size W w') := Lib.hid fun W h => mayPairs_ms x.qa x.qc x.qs W (hq.below h) hn
  clear hq hn
  clear R hx
  go_enter Tryz.func62, Tryz.ntmps62
  go_wp2_with ((refine wpList_store_part rfl 32 (.tmp 2) (.tmp 8) rfl (w.heap.size + 1) 0 (bodyC zeroBody) (bodyC { zeroBody with kind := 4, view := x.view }) (bodyC { zeroBody with kind := 4, view := x.view }) 32 HZ.out.own (HLE.out.1) (HLE.out.2) rfl rfl (HK.out _ ⟨rfl, rfl⟩) (one_bodyC _) ?_; intro w1 G1; have H1 := Lib.hid (HZ.out.grown G1.out); clear G1 HZ x0 x1; have y0 : w1.cell? ⟨w.heap.size, 0, none⟩ = some (.int .u8 4) := (body_lies H1.out.src HX.out).kind.trans (by rw [HKI.out]; rfl); have y1 : w1.cell? ⟨w.heap.size, 1, none⟩ = some (.int .u64 (x.view : Int)) := (body_lies H1.out.src HX.out).view; have y2 : w1.cell? ⟨w.heap.size, 2, none⟩ = some (.int .u64 (x.k : Int)) := (body_lies H1.out.src HX.out).k; have y43 : w1.cell? ⟨w.heap.size, 43, none⟩ = some (.slice x.qa x.qs.length x.qc) := (body_lies H1.out.src HX.out).q; have z2 : w1.cell? ⟨w.heap.size + 1, 2, none⟩ = some (.int .u64 0) := H1.out.cell 2 _ rfl; have z43 : w1.cell? ⟨w.heap.size + 1, 43, none⟩ = some (.slice none 0 0) := H1.out.cell 43 _ rfl; have hf := fun k => free_block H1.out.own k))
  have H2 := Lib.hid (H1.out.set 43 (.slice x.qa x.qs.length x.qc) (set_q _ _ _ _ rfl))
  clear H1 y0 y1 y2 y43 z2 z43 hf
  generalize w1.setCell ⟨w.heap.size + 1, 43, none⟩ (.slice x.qa x.qs.length x.qc) = w2 at H2 ⊢
  refine wp_region_any (by kernel_rfl) ?_
  have H3 := Lib.hid (H2.out.drewN 1)
  change wpAny _ _ _ _ _ _ _ (w2.drewN 1)
  generalize w2.drewN 1 = w3 at H3 ⊢
  refine wpAny_of_held (S := fun W => OwAt w x ({ zeroBody with kind := 4, view := x.view, qa := x.qa, qc := x.qc, qs := x.qs }) W) _ _ _ _ ?_
  refine wpAnyH_take (i := 0) (oi := { dst := some 41, op := Op.load 32 (Operand.tmp 2), type := 32, pos := "message.go:119", after := #[], guard := none }) (v := .agg (bodyC ({ zeroBody with kind := 4, view := x.view, qa := x.qa, qc := x.qc, qs := x.qs })).toArray) rfl (by kernel_rfl) (by kernel_rfl) (by kernel_rfl) (fun _ _ _ h => h) (Or.inl ⟨by kernel_rfl, fun W hSW => exec_load_mid 32 (.tmp 2) rfl (w.heap.size + 1) 0 rfl (bodyC ({ zeroBody with kind := 4, view := x.view, qa := x.qa, qc := x.qc, qs := x.qs })) _ (range_of hSW.own) Tryz.underlying32 rfl (HK.out _ ⟨rfl, rfl⟩)⟩) (H3.out) ?_
  try simp only [Act.put, List.setIfInBounds_toArray, List.set_cons_zero, List.set_cons_succ]
  refine wpAnyH_take (i := 1) (oi := { dst := some 42, op := Op.fieldAddr 32 (Operand.tmp 1) 1, type := 0, pos := "message.go:119", after := #[], guard := none }) (v := .pointer (some ⟨w.heap.size, 1, none⟩)) rfl (by kernel_rfl) (by kernel_rfl) (by kernel_rfl) (fun _ _ _ h => h) (Or.inl ⟨by kernel_rfl, fun W hSW => by go_simp⟩) (H3.out) ?_
  try simp only [Act.put, List.setIfInBounds_toArray, List.set_cons_zero, List.set_cons_succ]
  refine wpAnyH_take (i := 2) (oi := { dst := some 43, op := Op.load 22 (Operand.tmp 42), type := 22, pos := "message.go:119", after := #[{ on := 1, ground := Ground.data }], guard := none }) (v := .int .u64 (x.view : Int)) rfl (by kernel_rfl) (by kernel_rfl) (by kernel_rfl) (fun _ _ _ h => h) (Or.inl ⟨by kernel_rfl, fun W hSW => by have hv := (body_lies hSW.src HX.out).view; go_simp⟩) (H3.out) ?_
  try simp only [Act.put, List.setIfInBounds_toArray, List.set_cons_zero, List.set_cons_succ]
  refine wpAnyH_take (i := 3) (oi := { dst := some 44, op := Op.binOp BinOp.geq 22 (Operand.tmp 43) (Operand.const (Value.int IntKind.u64 1)) 22, type := 4, pos := "message.go:119", after := #[{ on := 2, ground := Ground.data }], guard := none }) (v := .bool false) rfl (by kernel_rfl) (by kernel_rfl) (by kernel_rfl) (fun _ _ _ h => h) (Or.inl ⟨by kernel_rfl, fun W hSW => by go_simp⟩) (H3.out) ?_
  try simp only [Act.put, List.setIfInBounds_toArray, List.set_cons_zero, List.set_cons_succ]
  refine wpAnyH_take (i := 4) (oi := { dst := some 45, op := Op.move (Operand.tmp 44), type := 4, pos := "message.go:119", after := #[{ on := 3, ground := Ground.data }], guard := none }) (v := .bool false) rfl (by kernel_rfl) (by kernel_rfl) (by kernel_rfl) (fun _ _ _ h => h) (Or.inl ⟨by kernel_rfl, fun W hSW => by go_simp⟩) (H3.out) ?_
  try simp only [Act.put, List.setIfInBounds_toArray, List.set_cons_zero, List.set_cons_succ]
  refine wpAnyH_take (i := 5) (oi := { dst := some 46, op := Op.fieldAddr 32 (Operand.tmp 1) 4, type := 0, pos := "message.go:119", after := #[{ on := 4, ground := Ground.guard }], guard := some (4, true) }) (v := undef) rfl (by kernel_rfl) (by kernel_rfl) (by kernel_rfl) (fun _ _ _ h => h) (Or.inr ⟨by kernel_rfl, rfl⟩) (H3.out) ?_
  try simp only [Act.put, List.setIfInBounds_toArray, List.set_cons_zero, List.set_cons_succ]
  refine wpAnyH_take (i := 6) (oi := { dst := some 47, op := Op.load 30 (Operand.tmp 46), type := 30, pos := "message.go:119", after := #[{ on := 5, ground := Ground.data }, { on := 4, ground := Ground.guard }], guard := some (4, true) }) (v := undef) rfl (by kernel_rfl) (by kernel_rfl) (by kernel_rfl) (fun _ _ _ h => h) (Or.inr ⟨by kernel_rfl, rfl⟩) (H3.out) ?_
  try simp only [Act.put, List.setIfInBounds_toArray, List.set_cons_zero, List.set_cons_succ]
  refine wpAnyH_take (i := 7) (oi := { dst := some 48, op := Op.call { callee := Callee.value (Operand.func 90), args := #[Operand.tmp 47], argTypes := #[30] }, type := 4, pos := "message.go:119", after := #[{ on := 6, ground := Ground.data }, { on := 4, ground := Ground.chain }, { on := 4, ground := Ground.guard }], guard := some (4, true) }) (v := undef) rfl (by kernel_rfl) (by kernel_rfl) (by kernel_rfl) (fun _ _ _ h => h) (Or.inr ⟨by kernel_rfl, rfl⟩) (H3.out) ?_
  try simp only [Act.put, List.setIfInBounds_toArray, List.set_cons_zero, List.set_cons_succ]
  refine wpAnyH_take (i := 8) (oi := { dst := some 49, op := Op.pick (Operand.tmp 45) (Operand.tmp 48) (Operand.const (Value.bool false)), type := 4, pos := "message.go:119", after := #[{ on := 4, ground := Ground.data }, { on := 7, ground := Ground.data }, { on := 9, ground := Ground.gcOnly Departure.lateStores }], guard := none }) (v := .bool false) rfl (by kernel_rfl) (by kernel_rfl) (by kernel_rfl) (fun _ _ _ h => h) (Or.inl ⟨by kernel_rfl, fun W hSW => by go_simp⟩) (H3.out) ?_
  try simp only [Act.put, List.setIfInBounds_toArray, List.set_cons_zero, List.set_cons_succ]
  refine wpAnyH_ready (rs := [9]) (by kernel_rfl) (by simp) ?_
  refine AllReadyH.cons (o := { dst := none, op := Op.store 32 (Operand.tmp 2) (Operand.tmp 41), type := 0, pos := "message.go:119", after := #[{ on := 0, ground := Ground.data }, { on := 7, ground := Ground.chain }, { on := 0, ground := Ground.phase }, { on := 1, ground := Ground.textOnly Departure.lateStores }, { on := 2, ground := Ground.textOnly Departure.lateStores }, { on := 3, ground := Ground.textOnly Departure.lateStores }, { on := 4, ground := Ground.textOnly Departure.lateStores }, { on := 5, ground := Ground.textOnly Departure.lateStores }, { on := 6, ground := Ground.textOnly Departure.lateStores }, { on := 7, ground := Ground.textOnly Departure.lateStoresUnsure }, { on := 8, ground := Ground.textOnly Departure.lateStores }], guard := none }) rfl (fun K' hK' => ?_) AllReadyH.nil
  refine step_store_cells rfl 32 (.tmp 2) (.tmp 41) rfl (w.heap.size + 1) 0 (bodyC ({ zeroBody with kind := 4, view := x.view, qa := x.qa, qc := x.qc, qs := x.qs })) rfl rfl (there_block H3.out.own 0 _ (by rw [Nat.zero_add]; exact Nat.le_refl _)) (HK.out _ ⟨rfl, rfl⟩) (one_bodyC _) ?_
  have H5 := Lib.hid (H3.out.same)
  refine hK'.out _ _ H5.out (fun _ => ?_)
  clear hK' K'
  refine wpAnyH_take (i := 10) (oi := { dst := some 3, op := Op.assign (Operand.tmp 49), type := 4, pos := "message.go:119", after := #[{ on := 8, ground := Ground.data }, { on := 9, ground := Ground.chain }, { on := 0, ground := Ground.phase }, { on := 1, ground := Ground.phase }, { on := 2, ground := Ground.phase }, { on := 3, ground := Ground.phase }, { on := 4, ground := Ground.phase }, { on := 5, ground := Ground.phase }, { on := 6, ground := Ground.phase }, { on := 7, ground := Ground.phase }, { on := 8, ground := Ground.phase }, { on := 9, ground := Ground.phase }], guard := none }) (v := .bool (false)) rfl (by kernel_rfl) (by kernel_rfl) (by kernel_rfl) (fun _ _ _ h => h) (Or.inl ⟨by kernel_rfl, fun W hSW => by go_simp⟩) (H5.out) ?_
  try simp only [Act.put, List.setIfInBounds_toArray, List.set_cons_zero, List.set_cons_succ]
  refine wpAnyH_done (by kernel_rfl) ?_ _
  go_wp2_with fail
  exact bodyPost_ret (H5.out.res ⟨rfl, rfl⟩ rfl rfl) rfl ⟨rfl, Lib.hid H5.out.bel⟩
end Go.Proofs.YtghjogneogkpoaaGreatDoor.Sh
