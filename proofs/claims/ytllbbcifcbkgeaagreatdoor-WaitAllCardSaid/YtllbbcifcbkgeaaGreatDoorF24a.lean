/- Laws and walks. -/
import Derived.Test.YtllbbcifcbkgeaaGreatDoorF13a
import Derived.Test.YtllbbcifcbkgeaaGreatDoorQaa
set_option maxHeartbeats 16000000
set_option maxRecDepth 100000
namespace Go.Proofs.YtllbbcifcbkgeaaGreatDoor.Sh
open Go.RowKit
structure MAct where
 who : Nat
 other : Nat
 meet : Bool
 kind : Nat
 view : Nat
 k : Nat
 client : Nat
 qa : Option Addr
 qc : Nat
 q : List UInt8
def actC (x : MAct) : List Value := [.int .u8 (x.who : Int), .int .u8 (x.other : Int), .bool x.meet, .int .u8 (x.kind : Int), .int .u8 (x.view : Int), .int .u8 (x.k : Int), .int .u8 (x.client : Int), .slice x.qa x.q.length x.qc]
structure MAct.Ok (x : MAct) : Prop where
 who : x.who < 256
 other : x.other < 256
 kind : x.kind < 256
 view : x.view < 256
 k : x.k < 256
 client : x.client < 256
def aReq (x : MAct) : MReq := signR { client := ((1 + x.client % 3 : Nat) : Int), time := 1 + x.k, op := ⟨1, ⟨#[97]⟩, ⟨#[]⟩, ⟨#[]⟩, ⟨#[]⟩, 0⟩, tag := noTag }
def aQs (x : MAct) (n : Nat) : List (Int × Nat) := (1, 1 + x.k % 6) :: (List.range (min n x.q.length - 1)).map fun i => (((i + 2 : Nat) : Int), 1 + (x.q.getD (i + 1) 0).toNat % 8)
def aBase (x : MAct) : MBody := { zeroBody with kind := UInt8.ofNat (1 + x.kind % 6), view := 1 + x.view % 6 }
def aBody (x : MAct) (n : Nat) : MBody :=
 match x.kind % 6 with
 | 0 => { aBase x with req := aReq x }
 | 1 => { aBase x with k := 1 + x.k % 6 }
 | 3 => { aBase x with qs := aQs x n }
 | 5 => { aBase x with view := 0, k := 1 + x.k, dig := UInt8.ofNat x.client :: List.replicate 31 0 }
 | _ => aBase x
def MBody.at (o : MBody) (A : Option Addr) (c : Nat) : MBody := { o with qa := A, qc := c }
def BodyP (w : World) (o : MBody) (E : Ending) (w' : World) : Prop := ∃ A c, E = .returned (.agg (bodyC (o.at A c)).toArray) /\ PrsB w.heap.size w' A o.qs /\ Below w.heap.size w w'
theorem info_body {o : MBody} (h : o.Wf) : (Tryz.prog.info? 50).map (·.size) = some (bodyC o).length := by rw [bodyC_length h]; exact Tryz.is50
theorem body_3 (x : MAct) (n : Nat) (w : World) (hx : x.Ok) (hk : KIs w) (h0 : 0 < w.heap.size) (hkk : x.kind % 6 = 2) : Calls Tryz.prog 39 #[.agg (actC x).toArray, .int .i64 (n : Int)] w fun E w' => BodyP w (aBody x n) E w' := by
 have hbod : aBody x n = aBase x := by rw [aBody, hkk]; rfl
 have hk6 : x.kind % 6 = 2 := hkk
 have hz := zero_body
 have hzl := bodyC_length zero_wf
 have hzn : ¬ (bodyC zeroBody = []) := fun e => by rw [e] at hzl; cases hzl
 have H0 := iq (((Fr.start hk h0).box (actC x).toArray 87).box' (k := w.heap.size + 1) (by simp) (bodyC zeroBody).toArray 50)
 have H1 := iq (H0.out.box' (k := w.heap.size + 2) (by simp) (bodyC zeroBody).toArray 50)
 have c3 := block_cell H0.out.hd2 3 _ rfl
 have c4 := block_cell H0.out.hd2 4 _ rfl
 have HAc : Hid (∀ (W : World), W.heap[w.heap.size]? = some (.cells (actC x).toArray 87 (0, 0)) -> W.cell? ⟨w.heap.size, 5, none⟩ = some (.int .u8 (x.k : Int)) /\ W.cell? ⟨w.heap.size, 6, none⟩ = some (.int .u8 (x.client : Int)) /\ W.cell? ⟨w.heap.size, 7, none⟩ = some (.slice x.qa x.q.length x.qc)) := iq fun W h => ⟨block_cell h 5 _ rfl, block_cell h 6 _ rfl, block_cell h 7 _ rfl⟩
 have ht1 : Int.tmod (x.kind : Int) 6 = 2 := by rw [Int.tmod_eq_emod_of_nonneg (by omega)]; omega
 have ht2 : (x.kind : Int) % 6 = 2 := by omega
 obtain ⟨V, hV⟩ : ∃ V : Nat, V = 1 + x.view % 6 := ⟨_, rfl⟩
 have ht3 : Int.tmod (x.view : Int) 6 = (V : Int) - 1 := by rw [Int.tmod_eq_emod_of_nonneg (by omega)]; omega
 have hw3 : IntKind.u64.wrap ((V : Int) - 1) = (V : Int) - 1 := by rw [IntKind.wrap_u64]; omega
 have hw4 : IntKind.u64.wrap (1 + ((V : Int) - 1)) = (V : Int) := by rw [IntKind.wrap_u64]; omega
 have hw5 : 1 + ((V : Int) - 1) = (V : Int) := by omega
 have hba : aBase x = { zeroBody with kind := 3, view := V } := by rw [aBase, hk6, <- hV]; rfl
 obtain ⟨o, ho⟩ : ∃ o : MBody, o = { zeroBody with kind := 3, view := V } := ⟨_, rfl⟩
 have HO := iq ho
 have hbo : bodyC o = .int .u8 3 :: .int .u64 (V : Int) :: (bodyC zeroBody).drop 2 := by rw [ho]; rfl
 have HBo := iq hbo
 have HOw : Hid o.Wf := iq (by rw [ho]; exact ⟨rfl, rfl⟩)
 have HZl := iq hzl
 have HIn := iq (fun (o : MBody) (h : o.Wf) => info_body h)
 have HLE : Hid (∀ C : List Value, ∀ o : MBody, C.length = 76 -> o.Wf -> 0 + (bodyC o).length <= C.length /\ setAll C 0 (bodyC o) = bodyC o) := iq fun C o hc hm => ⟨by rw [bodyC_length hm, hc]; omega, setAll_all (by rw [bodyC_length hm, hc])⟩
 rw [hba, <- ho] at hbod
 have HBd := iq hbod
 have hw6 : IntKind.u64.wrap (V : Int) = (V : Int) := by rw [IntKind.wrap_u64]; omega
 have HSt : Hid (((bodyC zeroBody).set 0 (.int .u8 3)).set 1 (.int .u64 (V : Int)) = bodyC o) := iq (by rw [ho]; rfl)
 have HOo := iq (one_bodyC o)
 have HQn : Hid (o.qs.length = 0) := iq (by rw [ho]; rfl)
 have hxk := hx.kind
 have hxv := hx.view
 clear hkk hk6 hV hba ho hbo hbod hzl
 go_enter Tryz.func39, Tryz.ntmps39
 go_wp2_with (first | (rw [HSt.out]; refine wpList_store_part rfl 50 (.tmp 5) (.tmp 16) rfl (w.heap.size + 1 + 1) 0 (bodyC zeroBody) (bodyC o) (bodyC o) 50 H1.out.hd (HLE.out _ o HZl.out HOw.out).1 (HLE.out _ o HZl.out HOw.out).2 rfl rfl (HIn.out o HOw.out) HOo.out ?_; intro w9 G9; have H9 : Hid (Fr w w9 [blkT (w.heap.size + 1 + 1) (bodyC o).toArray 50, blkT (w.heap.size + 1) (bodyC zeroBody).toArray 50, blkT w.heap.size (actC x).toArray 87]) := iq (H1.out.turn (own_grown G9.out.2 rfl) G9.out.1 (blkT_ok _ _ _)); have e0 := block_cell H9.out.hd 0 (.int .u8 3) (by rw [HBo.out]; rfl); clear G9 H1 H0) | ((with_reducible refine wpList_load_midG ?_ 50 (.tmp 5) ?_ (w.heap.size + 1 + 1) 0 ?_ (bodyC o) _ ?_ Tryz.underlying50 ?_ ?_ ?_); rotate_left; rfl; rfl; exact range_of H9.out.hd; rfl; exact HIn.out o HOw.out; rotate_left; rfl) | (refine wpList_store_part rfl 50 (.tmp 4) (.tmp 92) rfl (w.heap.size + 1) 0 (bodyC zeroBody) (bodyC o) (bodyC o) 50 H9.out.hd2 (HLE.out _ o HZl.out HOw.out).1 (HLE.out _ o HZl.out HOw.out).2 rfl rfl (HIn.out o HOw.out) HOo.out ?_; intro w10 G10; have HX : Hid (Fr w w10 [blkT (w.heap.size + 1) (bodyC o).toArray 50, blkT (w.heap.size + 1 + 1) (bodyC o).toArray 50, blkT w.heap.size (actC x).toArray 87]) := iq (H9.out.swap.turn (own_grown G10.out.2 rfl) G10.out.1 (blkT_ok _ _ _)); clear G10 H9 e0))
 exact bodyPost_ret (ret_range (cs := bodyC o) rfl rfl (range_of HX.out.hd) Tryz.underlying50 rfl (HIn.out o HOw.out)) rfl (by rw [HBd.out]; exact ⟨o.qa, o.qc, rfl, ⟨fun h => absurd h (by rw [HQn.out]; exact Nat.lt_irrefl 0), fun _ _ h => absurd h (by rw [HQn.out]; exact Nat.lt_irrefl 0)⟩, HX.out.bel⟩)
theorem body_5 (x : MAct) (n : Nat) (w : World) (hx : x.Ok) (hk : KIs w) (h0 : 0 < w.heap.size) (hkk : x.kind % 6 = 4) : Calls Tryz.prog 39 #[.agg (actC x).toArray, .int .i64 (n : Int)] w fun E w' => BodyP w (aBody x n) E w' := by
 have hbod : aBody x n = aBase x := by rw [aBody, hkk]; rfl
 have hk6 : x.kind % 6 = 4 := hkk
 have hz := zero_body
 have hzl := bodyC_length zero_wf
 have hzn : ¬ (bodyC zeroBody = []) := fun e => by rw [e] at hzl; cases hzl
 have H0 := iq (((Fr.start hk h0).box (actC x).toArray 87).box' (k := w.heap.size + 1) (by simp) (bodyC zeroBody).toArray 50)
 have H1 := iq (H0.out.box' (k := w.heap.size + 2) (by simp) (bodyC zeroBody).toArray 50)
 have c3 := block_cell H0.out.hd2 3 _ rfl
 have c4 := block_cell H0.out.hd2 4 _ rfl
 have HAc : Hid (∀ (W : World), W.heap[w.heap.size]? = some (.cells (actC x).toArray 87 (0, 0)) -> W.cell? ⟨w.heap.size, 5, none⟩ = some (.int .u8 (x.k : Int)) /\ W.cell? ⟨w.heap.size, 6, none⟩ = some (.int .u8 (x.client : Int)) /\ W.cell? ⟨w.heap.size, 7, none⟩ = some (.slice x.qa x.q.length x.qc)) := iq fun W h => ⟨block_cell h 5 _ rfl, block_cell h 6 _ rfl, block_cell h 7 _ rfl⟩
 have ht1 : Int.tmod (x.kind : Int) 6 = 4 := by rw [Int.tmod_eq_emod_of_nonneg (by omega)]; omega
 have ht2 : (x.kind : Int) % 6 = 4 := by omega
 obtain ⟨V, hV⟩ : ∃ V : Nat, V = 1 + x.view % 6 := ⟨_, rfl⟩
 have ht3 : Int.tmod (x.view : Int) 6 = (V : Int) - 1 := by rw [Int.tmod_eq_emod_of_nonneg (by omega)]; omega
 have hw3 : IntKind.u64.wrap ((V : Int) - 1) = (V : Int) - 1 := by rw [IntKind.wrap_u64]; omega
 have hw4 : IntKind.u64.wrap (1 + ((V : Int) - 1)) = (V : Int) := by rw [IntKind.wrap_u64]; omega
 have hw5 : 1 + ((V : Int) - 1) = (V : Int) := by omega
 have hba : aBase x = { zeroBody with kind := 5, view := V } := by rw [aBase, hk6, <- hV]; rfl
 obtain ⟨o, ho⟩ : ∃ o : MBody, o = { zeroBody with kind := 5, view := V } := ⟨_, rfl⟩
 have HO := iq ho
 have hbo : bodyC o = .int .u8 5 :: .int .u64 (V : Int) :: (bodyC zeroBody).drop 2 := by rw [ho]; rfl
 have HBo := iq hbo
 have HOw : Hid o.Wf := iq (by rw [ho]; exact ⟨rfl, rfl⟩)
 have HZl := iq hzl
 have HIn := iq (fun (o : MBody) (h : o.Wf) => info_body h)
 have HLE : Hid (∀ C : List Value, ∀ o : MBody, C.length = 76 -> o.Wf -> 0 + (bodyC o).length <= C.length /\ setAll C 0 (bodyC o) = bodyC o) := iq fun C o hc hm => ⟨by rw [bodyC_length hm, hc]; omega, setAll_all (by rw [bodyC_length hm, hc])⟩
 rw [hba, <- ho] at hbod
 have HBd := iq hbod
 have hw6 : IntKind.u64.wrap (V : Int) = (V : Int) := by rw [IntKind.wrap_u64]; omega
 have HSt : Hid (((bodyC zeroBody).set 0 (.int .u8 5)).set 1 (.int .u64 (V : Int)) = bodyC o) := iq (by rw [ho]; rfl)
 have HOo := iq (one_bodyC o)
 have HQn : Hid (o.qs.length = 0) := iq (by rw [ho]; rfl)
 have hxk := hx.kind
 have hxv := hx.view
 clear hkk hk6 hV hba ho hbo hbod hzl
 go_enter Tryz.func39, Tryz.ntmps39
 go_wp2_with (first | (rw [HSt.out]; refine wpList_store_part rfl 50 (.tmp 5) (.tmp 16) rfl (w.heap.size + 1 + 1) 0 (bodyC zeroBody) (bodyC o) (bodyC o) 50 H1.out.hd (HLE.out _ o HZl.out HOw.out).1 (HLE.out _ o HZl.out HOw.out).2 rfl rfl (HIn.out o HOw.out) HOo.out ?_; intro w9 G9; have H9 : Hid (Fr w w9 [blkT (w.heap.size + 1 + 1) (bodyC o).toArray 50, blkT (w.heap.size + 1) (bodyC zeroBody).toArray 50, blkT w.heap.size (actC x).toArray 87]) := iq (H1.out.turn (own_grown G9.out.2 rfl) G9.out.1 (blkT_ok _ _ _)); have e0 := block_cell H9.out.hd 0 (.int .u8 5) (by rw [HBo.out]; rfl); clear G9 H1 H0) | ((with_reducible refine wpList_load_midG ?_ 50 (.tmp 5) ?_ (w.heap.size + 1 + 1) 0 ?_ (bodyC o) _ ?_ Tryz.underlying50 ?_ ?_ ?_); rotate_left; rfl; rfl; exact range_of H9.out.hd; rfl; exact HIn.out o HOw.out; rotate_left; rfl) | (refine wpList_store_part rfl 50 (.tmp 4) (.tmp 92) rfl (w.heap.size + 1) 0 (bodyC zeroBody) (bodyC o) (bodyC o) 50 H9.out.hd2 (HLE.out _ o HZl.out HOw.out).1 (HLE.out _ o HZl.out HOw.out).2 rfl rfl (HIn.out o HOw.out) HOo.out ?_; intro w10 G10; have HX : Hid (Fr w w10 [blkT (w.heap.size + 1) (bodyC o).toArray 50, blkT (w.heap.size + 1 + 1) (bodyC o).toArray 50, blkT w.heap.size (actC x).toArray 87]) := iq (H9.out.swap.turn (own_grown G10.out.2 rfl) G10.out.1 (blkT_ok _ _ _)); clear G10 H9 e0))
 exact bodyPost_ret (ret_range (cs := bodyC o) rfl rfl (range_of HX.out.hd) Tryz.underlying50 rfl (HIn.out o HOw.out)) rfl (by rw [HBd.out]; exact ⟨o.qa, o.qc, rfl, ⟨fun h => absurd h (by rw [HQn.out]; exact Nat.lt_irrefl 0), fun _ _ h => absurd h (by rw [HQn.out]; exact Nat.lt_irrefl 0)⟩, HX.out.bel⟩)
theorem body_2 (x : MAct) (n : Nat) (w : World) (hx : x.Ok) (hk : KIs w) (h0 : 0 < w.heap.size) (hkk : x.kind % 6 = 1) : Calls Tryz.prog 39 #[.agg (actC x).toArray, .int .i64 (n : Int)] w fun E w' => BodyP w (aBody x n) E w' := by
 have hbod : aBody x n = { aBase x with k := 1 + x.k % 6 } := by rw [aBody, hkk]; rfl
 have hk6 : x.kind % 6 = 1 := hkk
 have hz := zero_body
 have hzl := bodyC_length zero_wf
 have hzn : ¬ (bodyC zeroBody = []) := fun e => by rw [e] at hzl; cases hzl
 have H0 := iq (((Fr.start hk h0).box (actC x).toArray 87).box' (k := w.heap.size + 1) (by simp) (bodyC zeroBody).toArray 50)
 have H1 := iq (H0.out.box' (k := w.heap.size + 2) (by simp) (bodyC zeroBody).toArray 50)
 have c3 := block_cell H0.out.hd2 3 _ rfl
 have c4 := block_cell H0.out.hd2 4 _ rfl
 have HAc : Hid (∀ (W : World), W.heap[w.heap.size]? = some (.cells (actC x).toArray 87 (0, 0)) -> W.cell? ⟨w.heap.size, 5, none⟩ = some (.int .u8 (x.k : Int)) /\ W.cell? ⟨w.heap.size, 6, none⟩ = some (.int .u8 (x.client : Int)) /\ W.cell? ⟨w.heap.size, 7, none⟩ = some (.slice x.qa x.q.length x.qc)) := iq fun W h => ⟨block_cell h 5 _ rfl, block_cell h 6 _ rfl, block_cell h 7 _ rfl⟩
 have ht1 : Int.tmod (x.kind : Int) 6 = 1 := by rw [Int.tmod_eq_emod_of_nonneg (by omega)]; omega
 have ht2 : (x.kind : Int) % 6 = 1 := by omega
 obtain ⟨V, hV⟩ : ∃ V : Nat, V = 1 + x.view % 6 := ⟨_, rfl⟩
 have ht3 : Int.tmod (x.view : Int) 6 = (V : Int) - 1 := by rw [Int.tmod_eq_emod_of_nonneg (by omega)]; omega
 have hw3 : IntKind.u64.wrap ((V : Int) - 1) = (V : Int) - 1 := by rw [IntKind.wrap_u64]; omega
 have hw4 : IntKind.u64.wrap (1 + ((V : Int) - 1)) = (V : Int) := by rw [IntKind.wrap_u64]; omega
 have hw5 : 1 + ((V : Int) - 1) = (V : Int) := by omega
 have hba : aBase x = { zeroBody with kind := 2, view := V } := by rw [aBase, hk6, <- hV]; rfl
 obtain ⟨o, ho⟩ : ∃ o : MBody, o = { zeroBody with kind := 2, view := V } := ⟨_, rfl⟩
 have HO := iq ho
 have hbo : bodyC o = .int .u8 2 :: .int .u64 (V : Int) :: (bodyC zeroBody).drop 2 := by rw [ho]; rfl
 have HBo := iq hbo
 have HOw : Hid o.Wf := iq (by rw [ho]; exact ⟨rfl, rfl⟩)
 have HZl := iq hzl
 have HIn := iq (fun (o : MBody) (h : o.Wf) => info_body h)
 have HLE : Hid (∀ C : List Value, ∀ o : MBody, C.length = 76 -> o.Wf -> 0 + (bodyC o).length <= C.length /\ setAll C 0 (bodyC o) = bodyC o) := iq fun C o hc hm => ⟨by rw [bodyC_length hm, hc]; omega, setAll_all (by rw [bodyC_length hm, hc])⟩
 obtain ⟨K1, hK1⟩ : ∃ K1 : Nat, K1 = 1 + x.k % 6 := ⟨_, rfl⟩
 have hxq := hx.k
 have ht5 : Int.tmod (x.k : Int) 6 = (K1 : Int) - 1 := by rw [Int.tmod_eq_emod_of_nonneg (by omega)]; omega
 have hw7 : IntKind.u64.wrap ((K1 : Int) - 1) = (K1 : Int) - 1 := by rw [IntKind.wrap_u64]; omega
 have hw8 : 1 + ((K1 : Int) - 1) = (K1 : Int) := by omega
 have hw9 : IntKind.u64.wrap (K1 : Int) = (K1 : Int) := by rw [IntKind.wrap_u64]; omega
 obtain ⟨o2, ho2⟩ : ∃ o2 : MBody, o2 = { o with k := K1 } := ⟨_, rfl⟩
 have HS2 : Hid ((bodyC o).set 2 (.int .u64 (K1 : Int)) = bodyC o2) := iq (by rw [ho2, ho]; rfl)
 have HW2 : Hid o2.Wf := iq (by rw [ho2, ho]; exact ⟨rfl, rfl⟩)
 have HO2 := iq (one_bodyC o2)
 have HQ2 : Hid (o2.qs.length = 0) := iq (by rw [ho2, ho]; rfl)
 rw [hba, <- ho] at hbod
 have hw6 : IntKind.u64.wrap (V : Int) = (V : Int) := by rw [IntKind.wrap_u64]; omega
 have HSt : Hid (((bodyC zeroBody).set 0 (.int .u8 2)).set 1 (.int .u64 (V : Int)) = bodyC o) := iq (by rw [ho]; rfl)
 have HOo := iq (one_bodyC o)
 have HQn : Hid (o.qs.length = 0) := iq (by rw [ho]; rfl)
 have hxk := hx.kind
 have hxv := hx.view
 rw [<- hK1] at hbod
 rw [<- ho2] at hbod
 have HBd := iq hbod
 clear hK1 ho2 hkk hk6 hV hba ho hbo hbod hzl
 go_enter Tryz.func39, Tryz.ntmps39
 go_wp2_with (first | (rw [HSt.out]; refine wpList_store_part rfl 50 (.tmp 5) (.tmp 16) rfl (w.heap.size + 1 + 1) 0 (bodyC zeroBody) (bodyC o) (bodyC o) 50 H1.out.hd (HLE.out _ o HZl.out HOw.out).1 (HLE.out _ o HZl.out HOw.out).2 rfl rfl (HIn.out o HOw.out) HOo.out ?_; intro w9 G9; have H9 : Hid (Fr w w9 [blkT (w.heap.size + 1 + 1) (bodyC o).toArray 50, blkT (w.heap.size + 1) (bodyC zeroBody).toArray 50, blkT w.heap.size (actC x).toArray 87]) := iq (H1.out.turn (own_grown G9.out.2 rfl) G9.out.1 (blkT_ok _ _ _)); have e0 := block_cell H9.out.hd 0 (.int .u8 2) (by rw [HBo.out]; rfl); clear G9 H1 H0; have H8 : Hid (Fr w (w9.setCell ⟨w.heap.size + 1 + 1, 2, none⟩ (.int .u64 (K1 : Int))) [blkT (w.heap.size + 1 + 1) (bodyC o2).toArray 50, blkT (w.heap.size + 1) (bodyC zeroBody).toArray 50, blkT w.heap.size (actC x).toArray 87]) := iq (by have := (H9.out.set 2 (.int .u64 (K1 : Int))); rw [HS2.out] at this; exact this); have e5 := (HAc.out _ H9.out.hd3).1; have c2 := block_cell H9.out.hd 2 (.int .u64 0) (by rw [HBo.out]; rfl); have hf := free_block H9.out.hd 2) | ((with_reducible refine wpList_load_midG ?_ 50 (.tmp 5) ?_ (w.heap.size + 1 + 1) 0 ?_ (bodyC o2) _ ?_ Tryz.underlying50 ?_ ?_ ?_); rotate_left; rfl; rfl; exact range_of H8.out.hd; rfl; exact HIn.out o2 HW2.out; rotate_left; rfl) | (refine wpList_store_part rfl 50 (.tmp 4) (.tmp 92) rfl (w.heap.size + 1) 0 (bodyC zeroBody) (bodyC o2) (bodyC o2) 50 H8.out.hd2 (HLE.out _ o2 HZl.out HW2.out).1 (HLE.out _ o2 HZl.out HW2.out).2 rfl rfl (HIn.out o2 HW2.out) HO2.out ?_; intro w10 G10; have HX : Hid (Fr w w10 [blkT (w.heap.size + 1) (bodyC o2).toArray 50, blkT (w.heap.size + 1 + 1) (bodyC o2).toArray 50, blkT w.heap.size (actC x).toArray 87]) := iq (H8.out.swap.turn (own_grown G10.out.2 rfl) G10.out.1 (blkT_ok _ _ _)); clear G10 H8 H9 e0 e5 c2 hf))
 exact bodyPost_ret (ret_range (cs := bodyC o2) rfl rfl (range_of HX.out.hd) Tryz.underlying50 rfl (HIn.out o2 HW2.out)) rfl (by rw [HBd.out]; exact ⟨o2.qa, o2.qc, rfl, ⟨fun h => absurd h (by rw [HQ2.out]; exact Nat.lt_irrefl 0), fun _ _ h => absurd h (by rw [HQ2.out]; exact Nat.lt_irrefl 0)⟩, HX.out.bel⟩)
theorem body_6 (x : MAct) (n : Nat) (w : World) (hx : x.Ok) (hk : KIs w) (h0 : 0 < w.heap.size) (hkk : x.kind % 6 = 5) : Calls Tryz.prog 39 #[.agg (actC x).toArray, .int .i64 (n : Int)] w fun E w' => BodyP w (aBody x n) E w' := by
 have hbod : aBody x n = { aBase x with view := 0, k := 1 + x.k, dig := UInt8.ofNat x.client :: List.replicate 31 0 } := by rw [aBody, hkk]; rfl
 have hk6 : x.kind % 6 = 5 := hkk
 have hz := zero_body
 have hzl := bodyC_length zero_wf
 have hzn : ¬ (bodyC zeroBody = []) := fun e => by rw [e] at hzl; cases hzl
 have H0 := iq (((Fr.start hk h0).box (actC x).toArray 87).box' (k := w.heap.size + 1) (by simp) (bodyC zeroBody).toArray 50)
 have H1 := iq (H0.out.box' (k := w.heap.size + 2) (by simp) (bodyC zeroBody).toArray 50)
 have c3 := block_cell H0.out.hd2 3 _ rfl
 have c4 := block_cell H0.out.hd2 4 _ rfl
 have HAc : Hid (∀ (W : World), W.heap[w.heap.size]? = some (.cells (actC x).toArray 87 (0, 0)) -> W.cell? ⟨w.heap.size, 5, none⟩ = some (.int .u8 (x.k : Int)) /\ W.cell? ⟨w.heap.size, 6, none⟩ = some (.int .u8 (x.client : Int)) /\ W.cell? ⟨w.heap.size, 7, none⟩ = some (.slice x.qa x.q.length x.qc)) := iq fun W h => ⟨block_cell h 5 _ rfl, block_cell h 6 _ rfl, block_cell h 7 _ rfl⟩
 have ht1 : Int.tmod (x.kind : Int) 6 = 5 := by rw [Int.tmod_eq_emod_of_nonneg (by omega)]; omega
 have ht2 : (x.kind : Int) % 6 = 5 := by omega
 obtain ⟨V, hV⟩ : ∃ V : Nat, V = 1 + x.view % 6 := ⟨_, rfl⟩
 have ht3 : Int.tmod (x.view : Int) 6 = (V : Int) - 1 := by rw [Int.tmod_eq_emod_of_nonneg (by omega)]; omega
 have hw3 : IntKind.u64.wrap ((V : Int) - 1) = (V : Int) - 1 := by rw [IntKind.wrap_u64]; omega
 have hw4 : IntKind.u64.wrap (1 + ((V : Int) - 1)) = (V : Int) := by rw [IntKind.wrap_u64]; omega
 have hw5 : 1 + ((V : Int) - 1) = (V : Int) := by omega
 have hba : aBase x = { zeroBody with kind := 6, view := V } := by rw [aBase, hk6, <- hV]; rfl
 obtain ⟨o, ho⟩ : ∃ o : MBody, o = { zeroBody with kind := 6, view := V } := ⟨_, rfl⟩
 have HO := iq ho
 have hbo : bodyC o = .int .u8 6 :: .int .u64 (V : Int) :: (bodyC zeroBody).drop 2 := by rw [ho]; rfl
 have HBo := iq hbo
 have HOw : Hid o.Wf := iq (by rw [ho]; exact ⟨rfl, rfl⟩)
 have HZl := iq hzl
 have HIn := iq (fun (o : MBody) (h : o.Wf) => info_body h)
 have HLE : Hid (∀ C : List Value, ∀ o : MBody, C.length = 76 -> o.Wf -> 0 + (bodyC o).length <= C.length /\ setAll C 0 (bodyC o) = bodyC o) := iq fun C o hc hm => ⟨by rw [bodyC_length hm, hc]; omega, setAll_all (by rw [bodyC_length hm, hc])⟩
 obtain ⟨K1, hK1⟩ : ∃ K1 : Nat, K1 = 1 + x.k := ⟨_, rfl⟩
 have hxq := hx.k
 have hw7 : IntKind.u64.wrap (x.k : Int) = (x.k : Int) := by rw [IntKind.wrap_u64]; omega
 have hw8 : 1 + (x.k : Int) = (K1 : Int) := by omega
 have hw9 : IntKind.u64.wrap (K1 : Int) = (K1 : Int) := by rw [IntKind.wrap_u64]; omega
 obtain ⟨c8, hc8⟩ : ∃ c8 : UInt8, c8 = UInt8.ofNat x.client := ⟨_, rfl⟩
 have hc9 : x.client = c8.toNat := by rw [hc8, UInt8.toNat_ofNat']; exact (Nat.mod_eq_of_lt hx.client).symm
 obtain ⟨o2, ho2⟩ : ∃ o2 : MBody, o2 = { o with view := 0, k := K1, dig := c8 :: List.replicate 31 0 } := ⟨_, rfl⟩
 have HS2 : Hid ((((bodyC o).set 1 (.int .u64 0)).set 2 (.int .u64 (K1 : Int))).set 44 (.int .u8 (c8.toNat : Int)) = bodyC o2) := iq (by rw [ho2, ho]; rfl)
 have HW2 : Hid o2.Wf := iq (by rw [ho2, ho]; exact ⟨rfl, rfl⟩)
 have HO2 := iq (one_bodyC o2)
 have HQ2 : Hid (o2.qs.length = 0) := iq (by rw [ho2, ho]; rfl)
 have HC9 := iq hc9
 rw [hba, <- ho] at hbod
 have hw6 : IntKind.u64.wrap (V : Int) = (V : Int) := by rw [IntKind.wrap_u64]; omega
 have HSt : Hid (((bodyC zeroBody).set 0 (.int .u8 6)).set 1 (.int .u64 (V : Int)) = bodyC o) := iq (by rw [ho]; rfl)
 have HOo := iq (one_bodyC o)
 have HQn : Hid (o.qs.length = 0) := iq (by rw [ho]; rfl)
 have hxk := hx.kind
 have hxv := hx.view
 rw [<- hK1, <- hc8] at hbod
 rw [<- ho2] at hbod
 have HBd := iq hbod
 clear hK1 ho2 hc8 hc9 hkk hk6 hV hba ho hbo hbod hzl
 go_enter Tryz.func39, Tryz.ntmps39
 go_wp2_with (first | (rw [HSt.out]; refine wpList_store_part rfl 50 (.tmp 5) (.tmp 16) rfl (w.heap.size + 1 + 1) 0 (bodyC zeroBody) (bodyC o) (bodyC o) 50 H1.out.hd (HLE.out _ o HZl.out HOw.out).1 (HLE.out _ o HZl.out HOw.out).2 rfl rfl (HIn.out o HOw.out) HOo.out ?_; intro w9 G9; have H9 : Hid (Fr w w9 [blkT (w.heap.size + 1 + 1) (bodyC o).toArray 50, blkT (w.heap.size + 1) (bodyC zeroBody).toArray 50, blkT w.heap.size (actC x).toArray 87]) := iq (H1.out.turn (own_grown G9.out.2 rfl) G9.out.1 (blkT_ok _ _ _)); have e0 := block_cell H9.out.hd 0 (.int .u8 6) (by rw [HBo.out]; rfl); clear G9 H1 H0; have H8 : Hid (Fr w (((w9.setCell ⟨w.heap.size + 1 + 1, 1, none⟩ (.int .u64 0)).setCell ⟨w.heap.size + 1 + 1, 2, none⟩ (.int .u64 (K1 : Int))).setCell ⟨w.heap.size + 1 + 1, 44, none⟩ (.int .u8 (c8.toNat : Int))) [blkT (w.heap.size + 1 + 1) (bodyC o2).toArray 50, blkT (w.heap.size + 1) (bodyC zeroBody).toArray 50, blkT w.heap.size (actC x).toArray 87]) := iq (by have := (((H9.out.set 1 (.int .u64 0)).set 2 (.int .u64 (K1 : Int))).set 44 (.int .u8 (c8.toNat : Int))); rw [HS2.out] at this; exact this); have e5 := (HAc.out _ H9.out.hd3).1; have e6 := (HAc.out _ H9.out.hd3).2.1; rw [HC9.out] at e6; have c1 := block_cell H9.out.hd 1 (.int .u64 (V : Int)) (by rw [HBo.out]; rfl); have c2 := block_cell H9.out.hd 2 (.int .u64 0) (by rw [HBo.out]; rfl); have c44 := block_cell H9.out.hd 44 (.int .u8 0) (by rw [HBo.out]; rfl); have hf1 := free_block H9.out.hd 1; have hf2 := free_block H9.out.hd 2; have hf3 := free_block H9.out.hd 44) | ((with_reducible refine wpList_load_midG ?_ 50 (.tmp 5) ?_ (w.heap.size + 1 + 1) 0 ?_ (bodyC o2) _ ?_ Tryz.underlying50 ?_ ?_ ?_); rotate_left; rfl; rfl; exact range_of H8.out.hd; rfl; exact HIn.out o2 HW2.out; rotate_left; rfl) | (refine wpList_store_part rfl 50 (.tmp 4) (.tmp 92) rfl (w.heap.size + 1) 0 (bodyC zeroBody) (bodyC o2) (bodyC o2) 50 H8.out.hd2 (HLE.out _ o2 HZl.out HW2.out).1 (HLE.out _ o2 HZl.out HW2.out).2 rfl rfl (HIn.out o2 HW2.out) HO2.out ?_; intro w10 G10; have HX : Hid (Fr w w10 [blkT (w.heap.size + 1) (bodyC o2).toArray 50, blkT (w.heap.size + 1 + 1) (bodyC o2).toArray 50, blkT w.heap.size (actC x).toArray 87]) := iq (H8.out.swap.turn (own_grown G10.out.2 rfl) G10.out.1 (blkT_ok _ _ _)); clear G10 H8 H9 e0 e5 e6 c1 c2 c44 hf1 hf2 hf3))
 exact bodyPost_ret (ret_range (cs := bodyC o2) rfl rfl (range_of HX.out.hd) Tryz.underlying50 rfl (HIn.out o2 HW2.out)) rfl (by rw [HBd.out]; exact ⟨o2.qa, o2.qc, rfl, ⟨fun h => absurd h (by rw [HQ2.out]; exact Nat.lt_irrefl 0), fun _ _ h => absurd h (by rw [HQ2.out]; exact Nat.lt_irrefl 0)⟩, HX.out.bel⟩)
end Go.Proofs.YtllbbcifcbkgeaaGreatDoor.Sh
