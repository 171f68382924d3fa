/- Laws and walks. -/
import Derived.Test.YtllbbcifcbkgeaaGreatDoorV2a
import Derived.Test.YtllbbcifcbkgeaaGreatDoorV3a
set_option maxHeartbeats 16000000
set_option maxRecDepth 100000
namespace Go.Proofs.YtllbbcifcbkgeaaGreatDoor.Sh
open Go.RowKit
def Ow (B : Nat) (w : World) (A : Option Addr) (n c : Nat) (bs : List UInt8) : Prop := w.ownsRow B 5 1 (.slice A n c) n (u8s bs) /\ Sl A n c
theorem own_low {w : World} {B B' n : Nat} {v : Value} {xs : List Value} (h : w.ownsRow B 5 1 v n xs) (hB : B' <= B) : w.ownsRow B' 5 1 v n xs := by
 rcases h.2 with ⟨h1, h2⟩ | ⟨g, cap, cur, h1, h2, h3⟩
 ·exact ⟨h.1, .inl ⟨h1, h2⟩⟩
 ·exact ⟨h.1, .inr ⟨g, cap, cur, h1, Nat.le_trans hB h2, h3⟩⟩
theorem Ow.low {B B' n c : Nat} {w : World} {A : Option Addr} {bs : List UInt8} (h : Ow B w A n c bs) (hB : B' <= B) : Ow B' w A n c bs := ⟨own_low h.1 hB, h.2⟩
theorem Ow.rd {B n c : Nat} {w : World} {A : Option Addr} {bs : List UInt8} (h : Ow B w A n c bs) : Rd (B <= ·) w A n bs := Rd.of_own h.1
theorem Ow.len {B n c : Nat} {w : World} {A : Option Addr} {bs : List UInt8} (h : Ow B w A n c bs) : bs.length = n := h.rd.1
theorem Ow.below {B n c : Nat} {w w' : World} {A : Option Addr} {bs : List UInt8} (h : Ow B w A n c bs) (hb : Below w.heap.size w w') : Ow B w' A n c bs :=
 ⟨h.1.kept (gb_below hb none) (by cases (Value.slice A n c).ownBlock <;> simp), h.2⟩
theorem Ow.nil (B : Nat) (w : World) : Ow B w none 0 0 [] := ⟨World.ownsRow_nil _ _ _ _, fun _ => ⟨rfl, rfl⟩, Nat.le_refl _, by omega⟩
theorem word_ow {B n c : Nat} {w : World} {A : Option Addr} {bs : List UInt8} (num : Nat) (h : Ow B w A n c bs) (hn : n <= 100000000) :
  Calls Tryz.prog 90 #[.slice A n c, .int .u64 (num : Int)] w fun E w' => ∃ A' n' c', E = .returned (.slice A' n' c') /\ Ow w.heap.size w' A' n' c' (bs ++ be 8 num) /\ Hid (Below w.heap.size w w') :=
 (word_any A n c bs num w h.rd (by omega)).mono fun E w' ⟨g, c', he, ho, hb⟩ => ⟨_, _, c', he, ⟨ho, own_some_shape ho⟩, hb⟩
def txtB (s : ByteArray) : List UInt8 := be 2 s.size ++ s.data.toList
theorem text_ow {B n c : Nat} {w : World} {A : Option Addr} {bs : List UInt8} (s : ByteArray) (h : Ow B w A n c bs) (hn : n <= 100000000) (hs : s.size <= 65535) :
  Calls Tryz.prog 126 #[.slice A n c, .string s] w fun E w' => ∃ A' n' c', E = .returned (.tuple #[.slice A' n' c', .int .i64 0]) /\ Ow w.heap.size w' A' n' c' (bs ++ txtB s) /\ Hid (Below w.heap.size w w') := by
 have hr : Oct.Rd w A n bs := ⟨h.rd.1, fun hn => let ⟨b, o, e, hb, _, hc⟩ := h.rd.2 hn; ⟨b, o, e, hb, hc⟩⟩
 refine (Oct.text_ok A n c bs s w hr (by omega) hs).mono fun E w' ⟨A', c', he, ho, hsl, hb⟩ => ⟨A', _, c', he, ⟨?_, hsl⟩, hb⟩
 rw [List.append_assoc] at ho
 exact ho
def byteOf (i : Int) : UInt8 := UInt8.ofNat i.toNat
theorem byteOf_val {i : Int} (h : 0 <= i /\ i < 256) : ((byteOf i).toNat : Int) = i := by
 unfold byteOf
 simp
 omega
def reqB (r : MReq) : List UInt8 := byteOf r.client :: r.op.kind :: (be 8 r.time ++ (be 8 r.op.amount ++ (txtB r.op.key ++ (txtB r.op.value ++ (txtB r.op.old ++ txtB r.op.to)))))
def pairB (p : Int × Nat) : List UInt8 := byteOf p.1 :: be 8 p.2
def pairsB (qs : List (Int × Nat)) : List UInt8 := qs.flatMap pairB
def bodyB (b : MBody) : List UInt8 :=
 if b.kind = 1 then be 8 b.view ++ (reqB b.req ++ b.req.tag)
 else if b.kind = 2 then be 8 b.view ++ be 8 b.k
 else if b.kind = 4 then be 8 b.view ++ (byteOf (b.qs.length : Int) :: pairsB b.qs)
 else if b.kind = 6 then be 8 b.k ++ b.dig
 else be 8 b.view
def depsB (l : List Nat) : List UInt8 := l.flatMap (be 8)
def msgB (m : MMsg) : List UInt8 := byteOf m.origin :: (depsB m.deps ++ (m.body.kind :: bodyB m.body))
def Puts (f : Nat) (b : MBody) (out : List UInt8) : Prop :=
 ∀ (B n c : Nat) (w : World) (A : Option Addr) (bs : List UInt8), Ow B w A n c bs -> n <= 1000000 ->
  Calls Tryz.prog f #[.slice A n c, .agg (bodyC b).toArray] w fun E w' => ∃ A' n' c', E = .returned (.slice A' n' c') /\ Ow w.heap.size w' A' n' c' (bs ++ out) /\ Hid (Below w.heap.size w w')
theorem putView_ms (b : MBody) (hb : b.Wf) : Puts 106 b (be 8 b.view) := by
 intro B n c w A bs h hn
 have L := body_lies (range_box w (bodyC b) 50) hb
 have c1 : (w.alloc (.cells (bodyC b).toArray 50)).cell? ⟨w.heap.size, 1, none⟩ = some (.int .u64 (b.view : Int)) := L.view
 have HB0 : Hid (Below w.heap.size w (w.alloc (.cells (bodyC b).toArray 50))) := iq (bl.alloc (Nat.le_refl _) _)
 have HO : Hid (Ow B (w.alloc (.cells (bodyC b).toArray 50)) A n c bs) := iq (h.below HB0.out)
 clear L hb h
 go_enter Tryz.func106, Tryz.ntmps106
 go_wp2_with (go_at_call 90; refine (word_ow b.view HO.out (by omega)).mono ?_; rintro E w1 ⟨A1, n1, c1, rfl, H1, hb1⟩; have HH1 := iq H1; clear H1)
 go_ret
 exact ⟨A1, n1, c1, rfl, HH1.out.low (by simp), iq (HB0.out.trans (hb1.out.mono (by simp)))⟩
open Go.RowKit
theorem putCommit_ms (b : MBody) (hb : b.Wf) : Puts 105 b (be 8 b.view ++ be 8 b.k) := by
 intro B n c w A bs h hn
 have HBD := iq hb
 have hl := h.len
 have HQ : Hid (BodyLies ((w.alloc (.cells (bodyC b).toArray 50)).drewN 1) w.heap.size 0 b /\ Below w.heap.size w ((w.alloc (.cells (bodyC b).toArray 50)).drewN 1) /\ w.heap.size < ((w.alloc (.cells (bodyC b).toArray 50)).drewN 1).heap.size /\ Ow B ((w.alloc (.cells (bodyC b).toArray 50)).drewN 1) A n c bs) :=
  iq ⟨body_lies (range_box w (bodyC b) 50) hb, below_drewN (bl.alloc (Nat.le_refl _) _) 1, by simp, h.below (below_drewN (bl.alloc (Nat.le_refl _) _) 1)⟩
 clear hb h
 go_enter Tryz.func105, Tryz.ntmps105
 go_wp2_with fail
 refine wp_region_any (by kernel_rfl) ?_
 change wpAny _ _ _ _ _ _ _ ((w.alloc (.cells (bodyC b).toArray 50)).drewN 1)
 generalize (w.alloc (.cells (bodyC b).toArray 50)).drewN 1 = w3 at HQ ⊢
 refine wpAny_of_held (S := fun W => Below w3.heap.size w3 W) _ _ _ _ ?_
 refine tk 0 ⟨some 5, .move (.tmp 0), _, _, _, none⟩ (.slice A n c) rfl (by kernel_rfl) (fun _ _ _ => id) bl (fun W hSW => by go_simp) ?_
 try simp only [Act.put, l0, l1, l2]
 refine tk 1 ⟨some 6, .fieldAddr 50 (.tmp 3) 1, _, _, _, none⟩ (.pointer (some ⟨w.heap.size, 1, none⟩)) rfl (by kernel_rfl) (fun _ _ _ => id) bl (fun W hSW => by go_simp) ?_
 try simp only [pu, l0, l1, l2]
 refine tk 2 ⟨some 7, .load 25 (.tmp 6), _, _, _, none⟩ (.int .u64 (b.view : Int)) rfl (by kernel_rfl) (fun _ _ _ => id) bl (fun W hSW => by have hv := (hSW.cell (p := ⟨w.heap.size, 1, none⟩) HQ.out.2.2.1).trans HQ.out.1.view; go_simp) ?_
 try simp only [pu, l0, l1, l2]
 refine tk 4 ⟨some 9, .fieldAddr 50 (.tmp 3) 2, _, _, _, none⟩ (.pointer (some ⟨w.heap.size, 2, none⟩)) rfl (by kernel_rfl) (fun _ _ _ => id) bl (fun W hSW => by go_simp) ?_
 try simp only [pu, l0, l1, l2]
 refine tk 5 ⟨some 10, .load 25 (.tmp 9), _, _, _, none⟩ (.int .u64 (b.k : Int)) rfl (by kernel_rfl) (fun _ _ _ => id) bl (fun W hSW => by have hv := (hSW.cell (p := ⟨w.heap.size, 2, none⟩) HQ.out.2.2.1).trans HQ.out.1.k; go_simp) ?_
 try simp only [pu, l0, l1, l2]
 refine rd1 3 ⟨some 8, .call { callee := .value (.func 90), args := #[.tmp 5, .tmp 7], argTypes := #[23, 25] }, _, _, _, none⟩ (by kernel_rfl) rfl fun K' hK' => ?_
 go_simp
 go_at_call 90
 refine (word_ow b.view HQ.out.2.2.2 (by omega)).mono ?_
 rintro E w4 ⟨Aw4, nw4, cw4, rfl, H4, hb4⟩
 have lw4 := H4.len
 have Ow4 := iq H4
 clear H4
 simp only [List.length_append, be_length] at lw4
 refine hK'.out _ _ hb4.out (fun _ => wpAnyH_next hb4.out ?_)
 clear hK' K'
 try simp only [Act.put, l0, l1, l2]
 refine rd1 6 ⟨some 11, .call { callee := .value (.func 90), args := #[.tmp 8, .tmp 10], argTypes := #[23, 25] }, _, _, _, none⟩ (by kernel_rfl) rfl fun K' hK' => ?_
 go_simp
 go_at_call 90
 refine (word_ow b.k Ow4.out (by omega)).mono ?_
 rintro E w5 ⟨Aw5, nw5, cw5, rfl, H5, hb5⟩
 have lw5 := H5.len
 have Ow5 := iq H5
 clear H5
 simp only [List.length_append, be_length] at lw5
 refine hK'.out _ _ hb5.out (fun _ => wpAnyH_next hb5.out ?_)
 clear hK' K'
 try simp only [Act.put, l0, l1, l2]
 refine tk 7 ⟨some 4, .assign (.tmp 11), _, _, _, none⟩ (.slice Aw5 nw5 cw5) rfl (by kernel_rfl) (fun _ _ _ => id) bl (fun W hSW => by go_simp) ?_
 try simp only [pu, l0, l1, l2]
 refine wpAnyH_done (by kernel_rfl) ?_ _
 go_wp2_with fail
 go_ret
 exact ⟨_, _, _, rfl, by rw [<- List.append_assoc]; exact Ow5.out.low (Nat.le_trans HQ.out.2.1.size hb4.out.size), iq (HQ.out.2.1.trans ((hb4.out.trans (hb5.out.mono hb4.out.size)).mono HQ.out.2.1.size))⟩
theorem rd_of_range {w : World} {g o : Nat} {bs : List UInt8} (h : w.rangeAt g o (u8s bs)) (hl : bs.length = 32) (hg : g < w.heap.size) : Rd (fun _ => True) w (some ⟨g, o, none⟩) 32 bs :=
 ⟨hl, fun _ => ⟨g, o, rfl, hg, trivial, fun j u hu => h j _ (by simp [u8s, hu])⟩⟩
theorem sl_32 {a : Addr} : Sl (some a) 32 32 := ⟨(fun h => by cases h), Nat.le_refl _, by omega⟩
theorem putCheck_ms (b : MBody) (hb : b.Wf) : Puts 108 b (be 8 b.k ++ b.dig) := by
 intro B n c w A bs h hn
 have HBD := iq hb
 have hl := h.len
 have HQ : Hid (BodyLies ((w.alloc (.cells (bodyC b).toArray 50)).drewN 1) w.heap.size 0 b /\ Below w.heap.size w ((w.alloc (.cells (bodyC b).toArray 50)).drewN 1) /\ w.heap.size < ((w.alloc (.cells (bodyC b).toArray 50)).drewN 1).heap.size /\ Ow B ((w.alloc (.cells (bodyC b).toArray 50)).drewN 1) A n c bs) :=
  iq ⟨body_lies (range_box w (bodyC b) 50) hb, below_drewN (bl.alloc (Nat.le_refl _) _) 1, by simp, h.below (below_drewN (bl.alloc (Nat.le_refl _) _) 1)⟩
 clear hb h
 go_enter Tryz.func108, Tryz.ntmps108
 go_wp2_with fail
 refine wp_region_any (by kernel_rfl) ?_
 change wpAny _ _ _ _ _ _ _ ((w.alloc (.cells (bodyC b).toArray 50)).drewN 1)
 generalize (w.alloc (.cells (bodyC b).toArray 50)).drewN 1 = w3 at HQ ⊢
 refine wpAny_of_held (S := fun W => Below w3.heap.size w3 W) _ _ _ _ ?_
 refine tk 0 ⟨some 5, .move (.tmp 0), _, _, _, none⟩ (.slice A n c) rfl (by kernel_rfl) (fun _ _ _ => id) bl (fun W hSW => by go_simp) ?_
 try simp only [Act.put, l0, l1, l2]
 refine tk 1 ⟨some 6, .fieldAddr 50 (.tmp 3) 2, _, _, _, none⟩ (.pointer (some ⟨w.heap.size, 2, none⟩)) rfl (by kernel_rfl) (fun _ _ _ => id) bl (fun W hSW => by go_simp) ?_
 try simp only [pu, l0, l1, l2]
 refine tk 2 ⟨some 7, .load 25 (.tmp 6), _, _, _, none⟩ (.int .u64 (b.k : Int)) rfl (by kernel_rfl) (fun _ _ _ => id) bl (fun W hSW => by have hv := (hSW.cell (p := ⟨w.heap.size, 2, none⟩) HQ.out.2.2.1).trans HQ.out.1.k; go_simp) ?_
 try simp only [pu, l0, l1, l2]
 refine tk 4 ⟨some 9, .fieldAddr 50 (.tmp 3) 5, _, _, _, none⟩ (.pointer (some ⟨w.heap.size, 44, none⟩)) rfl (by kernel_rfl) (fun _ _ _ => id) bl (fun W hSW => by go_simp) ?_
 try simp only [pu, l0, l1, l2]
 refine tk 5 ⟨some 10, .slice 45 (.tmp 9) none none none, _, _, _, none⟩ (.slice (some ⟨w.heap.size, 44, none⟩) 32 32) rfl (by kernel_rfl) (fun _ _ _ => id) bl (fun W hSW => by go_simp) ?_
 try simp only [pu, l0, l1, l2]
 refine rd1 3 ⟨some 8, .call { callee := .value (.func 90), args := #[.tmp 5, .tmp 7], argTypes := #[23, 25] }, _, _, _, none⟩ (by kernel_rfl) rfl fun K' hK' => ?_
 go_simp
 go_at_call 90
 refine (word_ow b.k HQ.out.2.2.2 (by omega)).mono ?_
 rintro E w4 ⟨Aw4, nw4, cw4, rfl, H4, hb4⟩
 have lw4 := H4.len
 have Ow4 := iq H4
 clear H4
 simp only [List.length_append, be_length] at lw4
 refine hK'.out _ _ hb4.out (fun _ => ?_)
 clear hK' K'
 try simp only [Act.put, l0, l1, l2]
 have HD := iq (HQ.out.1.dig)
 refine rd1 6 ⟨some 11, .call { callee := .builtin .append, args := #[.tmp 8, .tmp 10], argTypes := #[23, 23] }, _, _, _, none⟩ (by kernel_rfl) rfl fun K' hK' => ?_
 refine step_append_gb rfl (.tmp 8) (.tmp 10) rfl w3.heap.size nw4 32 32 (.slice Aw4 nw4 cw4) (some ⟨w.heap.size, 44, none⟩) (bs ++ be 8 b.k) b.dig rfl rfl Ow4.out.1 (Pr := fun _ => True) (rd_of_range (rangeAt_below HQ.out.1.dig hb4.out HQ.out.2.2.1) HBD.out.2 (Nat.lt_of_lt_of_le HQ.out.2.2.1 hb4.out.size)) sl_32 hb4.out.size (by omega) ?_
 intro A5 c5 w5 H5 G5
 have hb5 := iq (hb4.out.grown G5.out hb4.out.size (fun k hk => (Ow4.out.1.lt k hk).1))
 refine hK'.out _ _ hb5.out (fun _ => ?_)
 clear hK' K'
 try simp only [Act.put, l0, l1, l2]
 refine tk 7 ⟨some 4, .assign (.tmp 11), _, _, _, none⟩ (.slice A5 (nw4 + 32) c5) rfl (by kernel_rfl) (fun _ _ _ => id) (hb5.out) (fun W hSW => by go_simp) ?_
 try simp only [pu, l0, l1, l2]
 refine wpAnyH_done (by kernel_rfl) ?_ _
 go_wp2_with fail
 go_ret
 exact ⟨_, _, _, rfl, ⟨by rw [<- List.append_assoc]; exact own_low H5.out.1 HQ.out.2.1.size, H5.out.2⟩, iq (HQ.out.2.1.trans (hb5.out.mono HQ.out.2.1.size))⟩
open Go.RowKit
theorem wpList_append_made {wr : World} {ops : Array Oper} {rest : List Oper} {o : Oper} {a : Act} {Q : Exit -> Act -> World -> Prop} (hgd : o.guard = none) (s x : Operand)
  (ho : o.op = Op.call { callee := Callee.builtin Builtin.append, args := #[s, x], argTypes := #[23, 23] })
  (B n k g : Nat) (v : Value) (xs us : List UInt8) (zs : Array Value) (hg : g = wr.heap.size) (hs : a.eval s = v) (hx : a.eval x = .slice (some ⟨g, 0, none⟩) k k)
  (hown : wr.ownsRow B 5 1 v n (u8s xs)) (hB : B <= wr.heap.size) (hz : zs = (u8s us).toArray) (hk : us.length = k) (hm : n + k <= 140737488355328)
  (h : ∀ A' c' w', Hid (w'.ownsRow B 5 1 (.slice A' (n + k) c') (n + k) (u8s (xs ++ us)) /\ Sl A' (n + k) c') -> Hid (wr.grownBy w' v.ownBlock) -> wpList Tryz.prog ops Q rest (a.put o.dst (.slice A' (n + k) c')) w') :
  wpList Tryz.prog ops Q (o :: rest) a (wr.alloc (.cells zs 5)) := by
 subst hz hg
 refine wpList_append_gb hgd s x ho B n k k v _ xs us hs hx (hown.alloc _) (Pr := fun _ => True) ⟨hk, fun _ => ⟨_, 0, rfl, by simp, trivial, fun j y hy => ?_⟩⟩ ⟨(fun h => (by cases h)), Nat.le_refl _, by omega⟩ (by simp; omega) hm
  fun A' c' w' h1 h2 => h A' c' w' h1 (iq (gb_trans (World.grownBy_alloc wr _ _) h2.out))
 exact range_box wr (u8s us) 5 j _ (by simp [u8s, hy])
structure RqAt (B : Nat) (w : World) (C : List Value) (wr : World) : Prop where
 bel : Below B w wr
 lt : w.heap.size < wr.heap.size
 src : wr.rangeAt w.heap.size 0 C
theorem RqAt.next {B : Nat} {w wr w' : World} {C : List Value} (H : RqAt B w C wr) (hB : B <= w.heap.size) (hb : Below wr.heap.size wr w') : RqAt B w C w' :=
 ⟨H.bel.trans (hb.mono (Nat.le_trans hB (Nat.le_of_lt H.lt))), Nat.lt_of_lt_of_le H.lt hb.size, rangeAt_below H.src hb H.lt⟩
theorem RqAt.drewN {B : Nat} {w wr : World} {C : List Value} (H : RqAt B w C wr) (q : Nat) : RqAt B w C (wr.drewN q) := ⟨below_drewN H.bel q, H.lt, H.src⟩
theorem RqAt.grown {B n : Nat} {w wr w' : World} {C : List Value} {v : Value} {xs : List Value} (H : RqAt B w C wr) (hB : B <= w.heap.size) (ho : w.ownsRow B 5 1 v n xs) (hg : wr.grownBy w' v.ownBlock) : RqAt B w C w' :=
 ⟨H.bel.grown hg (Nat.le_trans hB (Nat.le_of_lt H.lt)) (fun k hk => (ho.lt k hk).1), Nat.lt_of_lt_of_le H.lt hg.size, fun j c hc => hg.cell (H.src j c hc) (fun e => by have := (ho.lt _ e.symm).2; simp at this)⟩
theorem RqAt.fresh {B n : Nat} {w wr w' : World} {C : List Value} {v : Value} {xs : List Value} (H : RqAt B w C wr) (hB : B <= w.heap.size) (ho : wr.ownsRow (w.heap.size + 1) 5 1 v n xs) (hg : wr.grownBy w' v.ownBlock) : RqAt B w C w' :=
 ⟨H.bel.grown hg (Nat.le_trans hB (Nat.le_of_lt H.lt)) (fun k hk => by have := (ho.lt k hk).1; omega), Nat.lt_of_lt_of_le H.lt hg.size, fun j c hc => hg.cell (H.src j c hc) (fun e => by have := (ho.lt _ e.symm).1; simp at this; omega)⟩
def textsB (l : List ByteArray) : List UInt8 := l.flatMap txtB
theorem txtB_len (s : ByteArray) : (txtB s).length = 2 + s.size := by
 rw [txtB, List.length_append, be_length]
 rfl
theorem textsB_take {l : List ByteArray} {j : Nat} {s : ByteArray} (h : l[j]? = some s) : textsB (l.take (j + 1)) = textsB (l.take j) ++ txtB s := by
 unfold textsB
 rw [List.take_add_one, h, List.flatMap_append]
 simp
theorem putRequest_ms (r : MReq) (B n c : Nat) (w : World) (A : Option Addr) (bs : List UInt8) (h : Ow B w A n c bs) (hB : B <= w.heap.size) (hn : n <= 1001000) (hr : reqMay r = true) :
  Calls Tryz.prog 118 #[.slice A n c, .agg (reqC r).toArray] w fun E w' => ∃ A' n' c', E = .returned (.slice A' n' c') /\ Ow w.heap.size w' A' n' c' (bs ++ reqB r) /\ Hid (Below B w w') := by
 have hl := h.len
 have HBB := iq hB
 have HO := iq h
 have HM : Hid ((1 <= r.client /\ r.client <= 8) /\ r.op.key.size <= 32 /\ r.op.to.size <= 32 /\ r.op.value.size <= 128 /\ r.op.old.size <= 128) := iq (by
  simp only [reqMay, opMay, Bool.and_eq_true, decide_eq_true_eq] at hr
  exact ⟨hr.1, hr.2.2.1.1, hr.2.2.1.2, hr.2.2.2.1, hr.2.2.2.2⟩)
 have hcw : IntKind.u8.wrap r.client = ((byteOf r.client).toNat : Int) := by
  rw [byteOf_val (by have := HM.out.1; omega)]
  have := HM.out.1
  unfold IntKind.wrap
  simp [IntKind.bits, IntKind.signed]
  omega
 have L := req_lies (range_box w (reqC r) 47)
 have c0 : (w.alloc (.cells (reqC r).toArray 47)).cell? ⟨w.heap.size, 0, none⟩ = some (.int .i64 r.client) := L.client
 have c2 : (w.alloc (.cells (reqC r).toArray 47)).cell? ⟨w.heap.size, 2, none⟩ = some (.int .u8 (r.op.kind.toNat : Int)) := L.op.kind
 have H0 : Hid (RqAt B w (reqC r) (w.alloc (.cells (reqC r).toArray 47))) := iq ⟨(bl.alloc (Nat.le_refl _) _).mono hB, by simp, range_box w (reqC r) 47⟩
 clear L hr h
 go_enter Tryz.func118, Tryz.ntmps118
 go_wp2_with (at_builtin; go_must (refine wpList_append_made rfl (.tmp 7) (.tmp 14) rfl B n 2 (w.heap.size + 1) (.slice A n c) bs [byteOf r.client, r.op.kind] _ (by simp) rfl rfl (HO.out.1.alloc _) (Nat.le_trans HBB.out (by simp)) rfl rfl (by omega) ?_); intro A1 c1 w1 K1 G1)
 have HQ0 := iq ((H0.out.grown HBB.out HO.out.1 G1.out))
 have O1 : Hid (Ow B w1 A1 (n + 2) c1 (bs ++ [byteOf r.client, r.op.kind])) := iq K1.out
 clear K1 G1 c0 c2 H0 hcw
 refine wp_region_any (by kernel_rfl) ?_
 change wpAny _ _ _ _ _ _ _ (w1.drewN 1)
 have HQ := iq (HQ0.out.drewN 1)
 have O3 : Hid (Ow B (w1.drewN 1) A1 (n + 2) c1 (bs ++ [byteOf r.client, r.op.kind])) := iq (O1.out.below (below_drewN bl 1))
 clear HQ0 O1
 generalize w1.drewN 1 = w3 at HQ O3 ⊢
 refine wpAny_of_held (S := fun W => Below w3.heap.size w3 W) _ _ _ _ ?_
 refine tk 0 ⟨some 16, .move (.tmp 0), _, _, _, none⟩ (.slice A1 (n + 2) c1) rfl (by kernel_rfl) (fun _ _ _ => id) bl (fun W hSW => by go_simp) ?_
 try simp only [Act.put, l0, l1, l2]
 refine tk 1 ⟨some 17, .fieldAddr 47 (.tmp 3) 1, _, _, _, none⟩ (.pointer (some ⟨w.heap.size, 1, none⟩)) rfl (by kernel_rfl) (fun _ _ _ => id) bl (fun W hSW => by go_simp) ?_
 try simp only [pu, l0, l1, l2]
 refine tk 2 ⟨some 18, .load 25 (.tmp 17), _, _, _, none⟩ (.int .u64 (r.time : Int)) rfl (by kernel_rfl) (fun _ _ _ => id) bl (fun W hSW => by have hv := (hSW.cell (p := ⟨w.heap.size, 1, none⟩) HQ.out.lt).trans (req_lies HQ.out.src).time; go_simp) ?_
 try simp only [pu, l0, l1, l2]
 refine tk 4 ⟨some 20, .fieldAddr 47 (.tmp 3) 2, _, _, _, none⟩ (.pointer (some ⟨w.heap.size, 2, none⟩)) rfl (by kernel_rfl) (fun _ _ _ => id) bl (fun W hSW => by go_simp) ?_
 try simp only [pu, l0, l1, l2]
 refine tk 5 ⟨some 21, .fieldAddr 44 (.tmp 20) 5, _, _, _, none⟩ (.pointer (some ⟨w.heap.size, 7, none⟩)) rfl (by kernel_rfl) (fun _ _ _ => id) bl (fun W hSW => by go_simp) ?_
 try simp only [pu, l0, l1, l2]
 refine tk 6 ⟨some 22, .load 25 (.tmp 21), _, _, _, none⟩ (.int .u64 (r.op.amount : Int)) rfl (by kernel_rfl) (fun _ _ _ => id) bl (fun W hSW => by have hv := (hSW.cell (p := ⟨w.heap.size, 7, none⟩) HQ.out.lt).trans (req_lies HQ.out.src).op.amount; go_simp) ?_
 try simp only [pu, l0, l1, l2]
 refine rd1 3 ⟨some 19, .call { callee := .value (.func 90), args := #[.tmp 16, .tmp 18], argTypes := #[23, 25] }, _, _, _, none⟩ (by kernel_rfl) rfl fun K' hK' => ?_
 go_simp
 go_at_call 90
 refine (word_ow r.time O3.out (by omega)).mono ?_
 rintro E w4 ⟨Aw4, nw4, cw4, rfl, H4, hb4⟩
 have lw4 := H4.len
 have Ow4 := iq H4
 clear H4
 simp only [List.length_append, be_length, List.length_cons, List.length_nil] at lw4
 refine hK'.out _ _ hb4.out (fun _ => wpAnyH_next hb4.out ?_)
 clear hK' K'
 try simp only [Act.put, l0, l1, l2]
 refine rd1 7 ⟨some 23, .call { callee := .value (.func 90), args := #[.tmp 19, .tmp 22], argTypes := #[23, 25] }, _, _, _, none⟩ (by kernel_rfl) rfl fun K' hK' => ?_
 go_simp
 go_at_call 90
 refine (word_ow r.op.amount Ow4.out (by omega)).mono ?_
 rintro E w5 ⟨Aw5, nw5, cw5, rfl, H5, hb5⟩
 have lw5 := H5.len
 have Ow5 := iq H5
 clear H5
 simp only [List.length_append, be_length, List.length_cons, List.length_nil] at lw5
 refine hK'.out _ _ hb5.out (fun _ => wpAnyH_next hb5.out ?_)
 clear hK' K'
 try simp only [Act.put, l0, l1, l2]
 refine tk 8 ⟨some 0, .assign (.tmp 23), _, _, _, none⟩ (.slice Aw5 nw5 cw5) rfl (by kernel_rfl) (fun _ _ _ => id) bl (fun W hSW => by go_simp) ?_
 try simp only [pu, l0, l1]
 refine wpAnyH_done (by kernel_rfl) ?_ _
 have HQ5 := iq ((HQ.out.next HBB.out hb4.out).next HBB.out hb5.out)
 have HOW : Hid (Ow (w.heap.size + 1) w5 Aw5 nw5 cw5 (bs ++ [byteOf r.client, r.op.kind] ++ be 8 r.time ++ be 8 r.op.amount)) := iq (Ow5.out.low (by have := HQ.out.lt; have := hb4.out.size; omega))
 clear HQ O3 Ow4 Ow5 hb4 hb5
 have HL5 := iq (req_lies HQ5.out.src)
 have k3 : w5.cell? ⟨w.heap.size, 3, none⟩ = some (.string r.op.key) := HL5.out.op.key
 have k4 : w5.cell? ⟨w.heap.size, 4, none⟩ = some (.string r.op.value) := HL5.out.op.value
 have k5 : w5.cell? ⟨w.heap.size, 5, none⟩ = some (.string r.op.old) := HL5.out.op.old
 have k6 : w5.cell? ⟨w.heap.size, 6, none⟩ = some (.string r.op.to) := HL5.out.op.to
 obtain ⟨ss, hss⟩ : ∃ ss : List ByteArray, ss = [r.op.key, r.op.value, r.op.old, r.op.to] := ⟨_, rfl⟩
 have HS : Hid (ss = [r.op.key, r.op.value, r.op.old, r.op.to] /\ ss.length = 4 /\ ∀ (j : Nat) (s : ByteArray), ss[j]? = some s -> s.size <= 128) := iq ⟨hss, by rw [hss]; rfl, by rw [hss]; intro j s hj; have := HM.out; match j, hj with | 0, hj => (simp at hj; subst hj; omega) | 1, hj => (simp at hj; subst hj; omega) | 2, hj => (simp at hj; subst hj; omega) | 3, hj => (simp at hj; subst hj; omega)⟩
 have HST : Hid (((ss.map Value.string)) = [.string r.op.key, .string r.op.value, .string r.op.old, .string r.op.to]) := iq (by rw [hss]; rfl)
 clear hss
 go_wp2_with fail
 have D6 : Hid (RqAt B w (reqC r) (w5.alloc (.cells #[.string r.op.key, .string r.op.value, .string r.op.old, .string r.op.to] 9)) /\ (w5.alloc (.cells #[.string r.op.key, .string r.op.value, .string r.op.old, .string r.op.to] 9)).rangeAt w5.heap.size 0 (ss.map Value.string) /\ w5.heap.size < (w5.alloc (.cells #[.string r.op.key, .string r.op.value, .string r.op.old, .string r.op.to] 9)).heap.size /\ Ow (w.heap.size + 1) (w5.alloc (.cells #[.string r.op.key, .string r.op.value, .string r.op.old, .string r.op.to] 9)) Aw5 nw5 cw5 (bs ++ [byteOf r.client, r.op.kind] ++ be 8 r.time ++ be 8 r.op.amount ++ textsB (ss.take 0))) := iq ⟨HQ5.out.next HBB.out (bl.alloc (Nat.le_refl _) _), by rw [HST.out]; exact range_box w5 [.string r.op.key, .string r.op.value, .string r.op.old, .string r.op.to] 9, by simp, by rw [List.take_zero, textsB, List.flatMap_nil, List.append_nil]; exact HOW.out.below (bl.alloc (Nat.le_refl _) _)⟩
 generalize w5.alloc (.cells #[.string r.op.key, .string r.op.value, .string r.op.old, .string r.op.to] 9) = w6 at D6 ⊢
 clear HQ5 HOW HL5 k3 k4 k5 k6
 generalize w5.heap.size = gs at D6 ⊢
 go_loopw [0, 38] (fun v0 v38 wr => ∃ j : Nat, j <= 4 /\ v38 = .int .i64 (j : Int) /\ ∃ A0 n0 c0, v0 = .slice A0 n0 c0 /\ n0 <= 2000000 + 200 * j /\ Hid (RqAt B w (reqC r) wr /\ wr.rangeAt gs 0 (ss.map Value.string) /\ gs < wr.heap.size /\ Ow (w.heap.size + 1) wr A0 n0 c0 (bs ++ [byteOf r.client, r.op.kind] ++ be 8 r.time ++ be 8 r.op.amount ++ textsB (ss.take j)))) (fun _ v38 _ => 4 - (intOf v38).toNat)
 case atStart => exact ⟨0, by omega, rfl, _, _, _, rfl, by omega, D6⟩
 case round =>
  clear D6
  obtain ⟨j, hj, rfl, A0, n0, c0, rfl, hn0, D⟩ := hrel
  by_cases hjj : j < 4
  ·obtain ⟨s, hs⟩ : ∃ s, ss[j]? = some s := ⟨_, List.getElem?_eq_getElem (by rw [HS.out.2.1]; exact hjj)⟩
   have HZ := iq (HS.out.2.2 j s hs)
   have HT := iq (textsB_take hs)
   have cj : wr.cell? ⟨gs, j, none⟩ = some (.string s) := by
      have := D.out.2.1 j (.string s) (by rw [List.getElem?_map, hs]; rfl)
      rwa [Nat.zero_add] at this
   clear hs
   go_wp2_with (go_at_call 126; refine (text_ow s D.out.2.2.2 (by omega) (by have := HZ.out; omega)).mono ?_; rintro E w7 ⟨A7, n7, c7, rfl, H7, hb7⟩; have O7 := iq H7; clear H7)
   go_roundw
   case measure => simp [intOf] <;> omega
   case rel => exact ⟨j + 1, by omega, by go_num, _, _, _, rfl, by
       have h1 := O7.out.len
       have h2 := D.out.2.2.2.len
       rw [List.length_append, h2, txtB_len] at h1
       have := HZ.out
       omega, iq ⟨D.out.1.next HBB.out hb7.out, rangeAt_below D.out.2.1 hb7.out D.out.2.2.1, Nat.lt_of_lt_of_le D.out.2.2.1 hb7.out.size, by rw [HT.out, <- List.append_assoc]; exact O7.out.low (by have := D.out.1.lt; omega)⟩⟩
  ·obtain rfl : j = 4 := by omega
   have HE : Hid (bs ++ [byteOf r.client, r.op.kind] ++ be 8 r.time ++ be 8 r.op.amount ++ textsB (ss.take 4) = bs ++ reqB r) := iq (by rw [List.take_of_length_le (by rw [HS.out.2.1]; exact Nat.le_refl _), HS.out.1]; simp [textsB, reqB])
   go_wp2_with fail
   go_ret
   exact ⟨_, _, _, rfl, by have := D.out.2.2.2.low (B' := w.heap.size) (by omega); rwa [HE.out] at this, iq D.out.1.bel⟩
open Go.RowKit
theorem reqB_len {r : MReq} (h : reqMay r = true) : (reqB r).length <= 400 := by
 simp only [reqMay, opMay, Bool.and_eq_true, decide_eq_true_eq] at h
 simp only [reqB, List.length_cons, List.length_append, be_length, txtB_len]
 omega
theorem putPrepare_ms (b : MBody) (hb : b.Wf) (hr : reqMay b.req = true) : Puts 104 b (be 8 b.view ++ (reqB b.req ++ b.req.tag)) := by
 intro B n c w A bs h hn
 have HBD := iq hb
 have hl := h.len
 have HQ : Hid (BodyLies ((w.alloc (.cells (bodyC b).toArray 50)).drewN 1) w.heap.size 0 b /\ Below w.heap.size w ((w.alloc (.cells (bodyC b).toArray 50)).drewN 1) /\ w.heap.size < ((w.alloc (.cells (bodyC b).toArray 50)).drewN 1).heap.size /\ Ow B ((w.alloc (.cells (bodyC b).toArray 50)).drewN 1) A n c bs) :=
  iq ⟨body_lies (range_box w (bodyC b) 50) hb, below_drewN (bl.alloc (Nat.le_refl _) _) 1, by simp, h.below (below_drewN (bl.alloc (Nat.le_refl _) _) 1)⟩
 have HIR : Hid ((Tryz.prog.info? 47).map (·.size) = some (reqC b.req).length) := iq (by rw [reqC_length hb.1]; exact Tryz.is47)
 have HRM := iq hr
 have hlr := reqB_len hr
 clear hb h hr
 go_enter Tryz.func104, Tryz.ntmps104
 go_wp2_with fail
 refine wp_region_any (by kernel_rfl) ?_
 change wpAny _ _ _ _ _ _ _ ((w.alloc (.cells (bodyC b).toArray 50)).drewN 1)
 generalize (w.alloc (.cells (bodyC b).toArray 50)).drewN 1 = w3 at HQ ⊢
 refine wpAny_of_held (S := fun W => Below w3.heap.size w3 W) _ _ _ _ ?_
 refine tk 0 ⟨some 5, .move (.tmp 0), _, _, _, none⟩ (.slice A n c) rfl (by kernel_rfl) (fun _ _ _ => id) bl (fun W hSW => by go_simp) ?_
 try simp only [Act.put, l0, l1, l2]
 refine tk 1 ⟨some 6, .fieldAddr 50 (.tmp 3) 1, _, _, _, none⟩ (.pointer (some ⟨w.heap.size, 1, none⟩)) rfl (by kernel_rfl) (fun _ _ _ => id) bl (fun W hSW => by go_simp) ?_
 try simp only [pu, l0, l1, l2]
 refine tk 2 ⟨some 7, .load 25 (.tmp 6), _, _, _, none⟩ (.int .u64 (b.view : Int)) rfl (by kernel_rfl) (fun _ _ _ => id) bl (fun W hSW => by have hv := (hSW.cell (p := ⟨w.heap.size, 1, none⟩) HQ.out.2.2.1).trans HQ.out.1.view; go_simp) ?_
 try simp only [pu, l0, l1, l2]
 refine tk 4 ⟨some 9, .fieldAddr 50 (.tmp 3) 3, _, _, _, none⟩ (.pointer (some ⟨w.heap.size, 3, none⟩)) rfl (by kernel_rfl) (fun _ _ _ => id) bl (fun W hSW => by go_simp) ?_
 try simp only [pu, l0, l1, l2]
 refine tk 5 ⟨some 10, .load 47 (.tmp 9), _, _, _, none⟩ (.agg (reqC b.req).toArray) rfl (by kernel_rfl) (fun _ _ _ => id) bl (fun W hSW => exec_load_mid 47 (.tmp 9) rfl w.heap.size 3 rfl (reqC b.req) _ (rangeAt_below HQ.out.1.req.all hSW HQ.out.2.2.1) Tryz.underlying47 rfl (HIR.out)) ?_
 try simp only [pu, l0, l1, l2]
 refine rd1 3 ⟨some 8, .call { callee := .value (.func 90), args := #[.tmp 5, .tmp 7], argTypes := #[23, 25] }, _, _, _, none⟩ (by kernel_rfl) rfl fun K' hK' => ?_
 go_simp
 go_at_call 90
 refine (word_ow b.view HQ.out.2.2.2 (by omega)).mono ?_
 rintro E w4 ⟨Aw4, nw4, cw4, rfl, H4, hb4⟩
 have lw4 := H4.len
 have Ow4 := iq H4
 clear H4
 simp only [List.length_append, be_length] at lw4
 refine hK'.out _ _ hb4.out (fun _ => ?_)
 clear hK' K'
 try simp only [Act.put, l0, l1, l2]
 refine rd1 6 ⟨some 11, .call { callee := .value (.func 118), args := #[.tmp 8, .tmp 10], argTypes := #[23, 47] }, _, _, _, none⟩ (by kernel_rfl) rfl fun K' hK' => ?_
 go_simp
 go_at_call 118
 refine (putRequest_ms b.req w3.heap.size nw4 cw4 w4 Aw4 (bs ++ be 8 b.view) Ow4.out hb4.out.size (by omega) HRM.out).mono ?_
 rintro E w5 ⟨Aw5, nw5, cw5, rfl, H5, hb5⟩
 have lw5 := H5.len
 have Ow5 := iq H5
 clear H5
 simp only [List.length_append, be_length] at lw5
 have hb35 := iq (hb4.out.trans hb5.out)
 refine hK'.out _ _ hb35.out (fun _ => ?_)
 clear hK' K'
 try simp only [Act.put, l0, l1, l2]
 refine tk 7 ⟨some 0, .assign (.tmp 11), _, _, _, none⟩ (.slice Aw5 nw5 cw5) rfl (by kernel_rfl) (fun _ _ _ => id) (hb35.out) (fun W hSW => by go_simp) ?_
 try simp only [pu, l0, l1]
 refine wpAnyH_done (by kernel_rfl) ?_ _
 have HD := iq (rd_of_range (rangeAt_below HQ.out.1.req.tag hb35.out HQ.out.2.2.1) HBD.out.1 (Nat.lt_of_lt_of_le HQ.out.2.2.1 hb35.out.size))
 go_wp2_with (at_builtin; go_must (refine wpList_append_gb rfl (.tmp 12) (.tmp 15) rfl w3.heap.size nw5 32 32 (.slice Aw5 nw5 cw5) (some ⟨w.heap.size, 11, none⟩) (bs ++ be 8 b.view ++ reqB b.req) b.req.tag rfl rfl (Ow5.out.low hb4.out.size).1 HD.out sl_32 hb35.out.size (by have := hlr; omega) ?_); intro A6 c6 w6 H6 G6)
 have hb6 := iq (hb35.out.grown G6.out hb35.out.size (fun k hk => ((Ow5.out.low hb4.out.size).1.lt k hk).1))
 go_ret
 exact ⟨_, _, _, rfl, ⟨by have := own_low H6.out.1 HQ.out.2.1.size; simpa [List.append_assoc] using this, H6.out.2⟩, iq (HQ.out.2.1.trans (hb6.out.mono HQ.out.2.1.size))⟩
open Go.RowKit
theorem rd_byte {w : World} {u : UInt8} {z : Int} (hz : z = (u.toNat : Int)) : Rd (fun _ => True) (w.alloc (.cells #[.int .u8 z] 5)) (some ⟨w.heap.size, 0, none⟩) 1 [u] :=
 ⟨rfl, fun _ => ⟨_, 0, rfl, by simp, trivial, fun j y hy => by
  subst hz
  exact range_box w (u8s [u]) 5 j _ (by rw [u8s, List.getElem?_map, hy]; rfl)⟩⟩
theorem sl_1 {a : Addr} : Sl (some a) 1 1 := ⟨(fun h => by cases h), Nat.le_refl _, by omega⟩
theorem pairsB_take {l : List (Int × Nat)} {j : Nat} {p : Int × Nat} (h : l[j]? = some p) : pairsB (l.take (j + 1)) = pairsB (l.take j) ++ pairB p := by
 unfold pairsB
 rw [List.take_add_one, h, List.flatMap_append]
 simp
theorem u8_wrap {i : Int} (h : 0 <= i /\ i < 256) : IntKind.u8.wrap i = ((byteOf i).toNat : Int) := by
 rw [byteOf_val h]
 unfold IntKind.wrap
 simp [IntKind.bits, IntKind.signed]
 omega
theorem pairB_len (p : Int × Nat) : (pairB p).length = 9 := by simp [pairB, be_length]
theorem putNewView_ms (b : MBody) (hb : b.Wf) (h11 : b.qs.length <= 11) (hrep : ∀ p ∈ b.qs, 1 <= p.1 /\ p.1 <= 11) (B n c : Nat) (w : World) (A : Option Addr) (bs : List UInt8) (h : Ow B w A n c bs) (hn : n <= 1000000) (hq : Prs w b.qa b.qs) :
  Calls Tryz.prog 107 #[.slice A n c, .agg (bodyC b).toArray] w fun E w' => ∃ A' n' c', E = .returned (.slice A' n' c') /\ Ow w.heap.size w' A' n' c' (bs ++ (be 8 b.view ++ (byteOf (b.qs.length : Int) :: pairsB b.qs))) /\ Hid (Below w.heap.size w w') := by
 have HQP := iq hq
 have HRP := iq hrep
 obtain ⟨m, hm⟩ : ∃ m, m = b.qs.length := ⟨_, rfl⟩
 have HMQ := iq hm
 have hwm : IntKind.u8.wrap (m : Int) = ((byteOf (m : Int)).toNat : Int) := u8_wrap (by omega)
 rw [<- hm] at h11 ⊢
 have q43 : ((w.alloc (.cells (bodyC b).toArray 50)).cell? ⟨w.heap.size, 43, none⟩) = some (.slice b.qa m b.qc) := by
  have := (body_lies (range_box w (bodyC b) 50) hb).q
  rw [hm]
  exact this
 have HQ43 := iq q43
 clear q43 hm hq hrep
 have HBD := iq hb
 have hl := h.len
 have HQ : Hid (BodyLies ((w.alloc (.cells (bodyC b).toArray 50)).drewN 1) w.heap.size 0 b /\ Below w.heap.size w ((w.alloc (.cells (bodyC b).toArray 50)).drewN 1) /\ w.heap.size < ((w.alloc (.cells (bodyC b).toArray 50)).drewN 1).heap.size /\ Ow B ((w.alloc (.cells (bodyC b).toArray 50)).drewN 1) A n c bs) :=
  iq ⟨body_lies (range_box w (bodyC b) 50) hb, below_drewN (bl.alloc (Nat.le_refl _) _) 1, by simp, h.below (below_drewN (bl.alloc (Nat.le_refl _) _) 1)⟩
 clear hb h
 go_enter Tryz.func107, Tryz.ntmps107
 go_wp2_with fail
 have HQ3 : Hid (((w.alloc (.cells (bodyC b).toArray 50)).drewN 1).cell? ⟨w.heap.size, 43, none⟩ = some (.slice b.qa m b.qc)) := HQ43
 clear HQ43
 refine wp_region_any (by kernel_rfl) ?_
 change wpAny _ _ _ _ _ _ _ ((w.alloc (.cells (bodyC b).toArray 50)).drewN 1)
 generalize (w.alloc (.cells (bodyC b).toArray 50)).drewN 1 = w3 at HQ HQ3 ⊢
 refine wpAny_of_held (S := fun W => Below w3.heap.size w3 W) _ _ _ _ ?_
 refine tk 0 ⟨some 7, .move (.tmp 0), _, _, _, none⟩ (.slice A n c) rfl (by kernel_rfl) (fun _ _ _ => id) bl (fun W hSW => by go_simp) ?_
 try simp only [Act.put, l0, l1, l2]
 refine tk 1 ⟨some 8, .fieldAddr 50 (.tmp 3) 1, _, _, _, none⟩ (.pointer (some ⟨w.heap.size, 1, none⟩)) rfl (by kernel_rfl) (fun _ _ _ => id) bl (fun W hSW => by go_simp) ?_
 try simp only [pu, l0, l1, l2]
 refine tk 2 ⟨some 9, .load 25 (.tmp 8), _, _, _, none⟩ (.int .u64 (b.view : Int)) rfl (by kernel_rfl) (fun _ _ _ => id) bl (fun W hSW => by have hv := (hSW.cell (p := ⟨w.heap.size, 1, none⟩) HQ.out.2.2.1).trans HQ.out.1.view; go_simp) ?_
 try simp only [pu, l0, l1, l2]
 refine tk 4 ⟨some 11, .fieldAddr 50 (.tmp 3) 4, _, _, _, none⟩ (.pointer (some ⟨w.heap.size, 43, none⟩)) rfl (by kernel_rfl) (fun _ _ _ => id) bl (fun W hSW => by go_simp) ?_
 try simp only [pu, l0, l1, l2]
 refine tk 5 ⟨some 12, .load 48 (.tmp 11), _, _, _, none⟩ (.slice b.qa m b.qc) rfl (by kernel_rfl) (fun _ _ _ => id) bl (fun W hSW => by have hv := (hSW.cell (p := ⟨w.heap.size, 43, none⟩) HQ.out.2.2.1).trans HQ3.out; go_simp) ?_
 try simp only [pu, l0, l1, l2]
 refine tk 6 ⟨some 13, .call { callee := .builtin .len, args := #[.tmp 12], argTypes := #[48] }, _, _, _, none⟩ (.int .i64 (m : Int)) rfl (by kernel_rfl) (fun _ _ _ => id) bl (fun W hSW => by go_simp) ?_
 try simp only [pu, l0, l1, l2]
 refine tk 7 ⟨some 14, .convert 3 5 (.tmp 13), _, _, _, none⟩ (.int .u8 ((byteOf (m : Int)).toNat : Int)) rfl (by kernel_rfl) (fun _ _ _ => id) bl (fun W hSW => by go_simp) ?_
 try simp only [pu, l0, l1, l2]
 refine rdy [3, 8] (by kernel_rfl) ?_
 refine AllReadyH.cons (o := ⟨some 10, .call { callee := .value (.func 90), args := #[.tmp 7, .tmp 9], argTypes := #[23, 25] }, _, _, _, none⟩) rfl (fun K' hK' => ?_) (AllReadyH.cons (o := ⟨some 15, .buildSlice 23 1 #[(0, .tmp 14)], _, _, _, none⟩) rfl (fun K' hK' => ?_) AllReadyH.nil)
 ·go_simp
  go_at_call 90
  refine (word_ow b.view HQ.out.2.2.2 (by omega)).mono ?_
  rintro E w4 ⟨Aw4, nw4, cw4, rfl, H4, hb4⟩
  have lw4 := H4.len
  have Ow4 := iq H4
  clear H4
  simp only [List.length_append, be_length] at lw4
  refine hK'.out _ _ hb4.out (fun _ => ?_)
  clear hK' K'
  try simp only [Act.put, l0, l1, l2]
  refine rd1 8 ⟨some 15, .buildSlice 23 1 #[(0, .tmp 14)], _, _, _, none⟩ (by kernel_rfl) rfl fun K' hK' => ?_
  go_simp
  have hb5 : Hid (Below w3.heap.size w3 (w4.alloc (.cells #[.int .u8 ((byteOf (m : Int)).toNat : Int)] 5))) := iq (hb4.out.alloc hb4.out.size _)
  refine hK'.out _ _ hb5.out (fun _ => ?_)
  clear hK' K'
  try simp only [Act.put, l0, l1, l2]
  have O5 : Hid (Ow w3.heap.size (w4.alloc (.cells #[.int .u8 ((byteOf (m : Int)).toNat : Int)] 5)) Aw4 nw4 cw4 (bs ++ be 8 b.view)) := iq (Ow4.out.below (bl.alloc (Nat.le_refl _) _))
  refine rd1 9 ⟨some 16, .call { callee := .builtin .append, args := #[.tmp 10, .tmp 15], argTypes := #[23, 23] }, _, _, _, none⟩ (by kernel_rfl) rfl fun K' hK' => ?_
  refine step_append_gb rfl (.tmp 10) (.tmp 15) rfl w3.heap.size nw4 1 1 (.slice Aw4 nw4 cw4) (some ⟨w4.heap.size, 0, none⟩) (bs ++ be 8 b.view) [byteOf (m : Int)] rfl rfl (O5.out.1) (Pr := fun _ => True) (rd_byte rfl) sl_1 (hb5.out.size) (by omega) ?_
  intro A6 c6 w6 H6 G6
  have hb6 := iq ((hb5.out).grown G6.out (hb5.out.size) (fun k hk => ((O5.out.1).lt k hk).1))
  refine hK'.out _ _ hb6.out (fun _ => ?_)
  clear hK' K'
  try simp only [Act.put, l0, l1, l2]
  refine tk 10 ⟨some 0, .assign (.tmp 16), _, _, _, none⟩ (.slice A6 (nw4 + 1) c6) rfl (by kernel_rfl) (fun _ _ _ => id) (hb6.out) (fun W hSW => by go_simp) ?_
  try simp only [pu, l0, l1]
  refine wpAnyH_done (by kernel_rfl) ?_ _
  have D6 : Hid (Below w.heap.size w w6 /\ Ow w.heap.size w6 A6 (nw4 + 1) c6 (bs ++ be 8 b.view ++ [byteOf (m : Int)] ++ pairsB (b.qs.take 0))) := iq ⟨HQ.out.2.1.trans (hb6.out.mono HQ.out.2.1.size), by rw [List.take_zero, pairsB, List.flatMap_nil, List.append_nil]; exact ⟨own_low H6.out.1 HQ.out.2.1.size, H6.out.2⟩⟩
  have q6 : w6.cell? ⟨w.heap.size, 43, none⟩ = some (.slice b.qa m b.qc) := (hb6.out.cell (p := ⟨w.heap.size, 43, none⟩) HQ.out.2.2.1).trans HQ3.out
  have hn6 : nw4 + 1 <= 1000100 := by omega
  generalize nw4 + 1 = n6 at D6 hn6 ⊢
  clear hb6 H6 G6 HQ HQ3
  go_wp2_with fail
  clear q6
  go_loopw [0, 20] (fun v0 v20 wr => ∃ j : Nat, j <= m /\ v20 = .int .i64 (j : Int) /\ ∃ A0 n0 c0, v0 = .slice A0 n0 c0 /\ n0 <= 1000100 + 9 * j /\ Hid (Below w.heap.size w wr /\ Ow w.heap.size wr A0 n0 c0 (bs ++ be 8 b.view ++ [byteOf (m : Int)] ++ pairsB (b.qs.take j)))) (fun _ v20 _ => m - (intOf v20).toNat)
  case atStart => exact ⟨0, by omega, rfl, _, _, _, rfl, by omega, D6⟩
  case round =>
   clear D6 hn6
   obtain ⟨j, hj, rfl, A0, n0, c0, rfl, hn0, D⟩ := hrel
   by_cases hjj : j < m
   ·obtain ⟨p, hp⟩ : ∃ p, b.qs[j]? = some p := ⟨_, List.getElem?_eq_getElem (by rw [<- HMQ.out]; exact hjj)⟩
    obtain ⟨bq, oq, hqa, hbq, hcq⟩ := HQP.out (by rw [<- HMQ.out]; omega)
    have p0 : wr.cell? ⟨bq, oq + j * 2, none⟩ = some (.int .i64 p.1) := (D.out.1.cell (p := ⟨bq, oq + j * 2, none⟩) hbq).trans (hcq j p hp).1
    have p1 : wr.cell? ⟨bq, oq + j * 2 + 1, none⟩ = some (.int .u64 (p.2 : Int)) := (D.out.1.cell (p := ⟨bq, oq + j * 2 + 1, none⟩) hbq).trans (hcq j p hp).2
    have HT := iq (pairsB_take hp)
    have HW : Hid (IntKind.u8.wrap p.1 = ((byteOf p.1).toNat : Int)) := iq (u8_wrap (by have := HRP.out p (List.mem_of_getElem? hp); omega))
    obtain ⟨x, y⟩ := p
    rw [hqa]
    clear hp hcq
    dsimp only at p0 p1 HW
    go_wp2_with fail
    refine wp_region_any (by kernel_rfl) ?_
    change wpAny _ _ _ _ _ _ _ ((wr.alloc (.cells #[.int .i64 x, .int .u64 (y : Int)] 55)).drewN 1)
    have D8 : Hid ((((wr.alloc (.cells #[.int .i64 x, .int .u64 (y : Int)] 55)).drewN 1).cell? ⟨wr.heap.size, 0, none⟩ = some (.int .i64 x) /\ ((wr.alloc (.cells #[.int .i64 x, .int .u64 (y : Int)] 55)).drewN 1).cell? ⟨wr.heap.size, 1, none⟩ = some (.int .u64 (y : Int))) /\ Below wr.heap.size wr ((wr.alloc (.cells #[.int .i64 x, .int .u64 (y : Int)] 55)).drewN 1) /\ wr.heap.size < ((wr.alloc (.cells #[.int .i64 x, .int .u64 (y : Int)] 55)).drewN 1).heap.size) := iq ⟨⟨range_box wr [.int .i64 x, .int .u64 (y : Int)] 55 0 _ rfl, range_box wr [.int .i64 x, .int .u64 (y : Int)] 55 1 _ rfl⟩, below_drewN (bl.alloc (Nat.le_refl _) _) 1, by simp⟩
    clear p0 p1
    generalize (wr.alloc (.cells #[.int .i64 x, .int .u64 (y : Int)] 55)).drewN 1 = w8 at D8 ⊢
    refine wpAny_of_held (S := fun W => W.cell? ⟨wr.heap.size, 0, none⟩ = some (.int .i64 x) /\ W.cell? ⟨wr.heap.size, 1, none⟩ = some (.int .u64 (y : Int))) _ _ _ _ ?_
    refine tk 0 ⟨some 24, .move (.tmp 0), _, _, _, none⟩ (.slice A0 n0 c0) rfl (by kernel_rfl) (fun _ _ _ => id) (D8.out.1) (fun W hSW => by go_simp) ?_
    try simp only [Act.put, l0, l1, l2]
    refine tk 1 ⟨some 25, .fieldAddr 55 (.tmp 6) 0, _, _, _, none⟩ (.pointer (some ⟨wr.heap.size, 0, none⟩)) rfl (by kernel_rfl) (fun _ _ _ => id) (D8.out.1) (fun W hSW => by go_simp) ?_
    try simp only [pu, l0, l1, l2]
    refine tk 2 ⟨some 26, .load 3 (.tmp 25), _, _, _, none⟩ (.int .i64 x) rfl (by kernel_rfl) (fun _ _ _ => id) (D8.out.1) (fun W hSW => by have hv := hSW.1; go_simp) ?_
    try simp only [pu, l0, l1, l2]
    refine tk 3 ⟨some 27, .convert 3 5 (.tmp 26), _, _, _, none⟩ (.int .u8 ((byteOf x).toNat : Int)) rfl (by kernel_rfl) (fun _ _ _ => id) (D8.out.1) (fun W hSW => by have hv := HW.out; go_simp) ?_
    try simp only [pu, l0, l1, l2]
    refine tk 6 ⟨some 30, .fieldAddr 55 (.tmp 6) 1, _, _, _, none⟩ (.pointer (some ⟨wr.heap.size, 1, none⟩)) rfl (by kernel_rfl) (fun _ _ _ => id) (D8.out.1) (fun W hSW => by go_simp) ?_
    try simp only [pu, l0, l1, l2]
    refine tk 7 ⟨some 31, .load 25 (.tmp 30), _, _, _, none⟩ (.int .u64 (y : Int)) rfl (by kernel_rfl) (fun _ _ _ => id) (D8.out.1) (fun W hSW => by have hv := hSW.2; go_simp) ?_
    try simp only [pu, l0, l1, l2]
    refine rd1 4 ⟨some 28, .buildSlice 23 1 #[(0, .tmp 27)], _, _, _, none⟩ (by kernel_rfl) rfl fun K' hK' => ?_
    go_simp
    have D9 : Hid (((w8.alloc (.cells #[.int .u8 ((byteOf x).toNat : Int)] 5)).cell? ⟨wr.heap.size, 0, none⟩ = some (.int .i64 x) /\ (w8.alloc (.cells #[.int .u8 ((byteOf x).toNat : Int)] 5)).cell? ⟨wr.heap.size, 1, none⟩ = some (.int .u64 (y : Int)))) := iq ⟨(((Below.refl w8.heap.size w8).alloc (Nat.le_refl _) (.cells #[.int .u8 ((byteOf x).toNat : Int)] 5)).cell (p := ⟨wr.heap.size, 0, none⟩) D8.out.2.2).trans D8.out.1.1, (((Below.refl w8.heap.size w8).alloc (Nat.le_refl _) (.cells #[.int .u8 ((byteOf x).toNat : Int)] 5)).cell (p := ⟨wr.heap.size, 1, none⟩) D8.out.2.2).trans D8.out.1.2⟩
    refine hK'.out _ _ D9.out (fun _ => ?_)
    clear hK' K'
    try simp only [Act.put, l0, l1, l2]
    have O9 := iq ((D.out.2.below D8.out.2.1).below (bl.alloc (Nat.le_refl _) (.cells #[.int .u8 ((byteOf x).toNat : Int)] 5)))
    refine rd1 5 ⟨some 29, .call { callee := .builtin .append, args := #[.tmp 24, .tmp 28], argTypes := #[23, 23] }, _, _, _, none⟩ (by kernel_rfl) rfl fun K' hK' => ?_
    refine step_append_gb rfl (.tmp 24) (.tmp 28) rfl w.heap.size n0 1 1 (.slice A0 n0 c0) (some ⟨w8.heap.size, 0, none⟩) (bs ++ be 8 b.view ++ [byteOf (m : Int)] ++ pairsB (b.qs.take j)) [byteOf x] rfl rfl O9.out.1 (Pr := fun _ => True) (rd_byte rfl) sl_1 (Nat.le_trans (Nat.le_trans D.out.1.size D8.out.2.1.size) (by simp)) (by omega) ?_
    intro A10 c10 w10 H10 G10
    have hne : ∀ k, (Value.slice A0 n0 c0).ownBlock = some k -> k < wr.heap.size := fun k hk => (D.out.2.1.lt k hk).2
    have D10 : Hid (w10.cell? ⟨wr.heap.size, 0, none⟩ = some (.int .i64 x) /\ w10.cell? ⟨wr.heap.size, 1, none⟩ = some (.int .u64 (y : Int))) := iq ⟨G10.out.cell D9.out.1 (fun e => by have := hne _ e.symm; simp at this), G10.out.cell D9.out.2 (fun e => by have := hne _ e.symm; simp at this)⟩
    have B10 : Hid (Below w.heap.size w w10) := iq (((D.out.1.trans (D8.out.2.1.mono D.out.1.size)).alloc (Nat.le_trans D.out.1.size D8.out.2.1.size) _).grown G10.out (Nat.le_trans (Nat.le_trans D.out.1.size D8.out.2.1.size) (by simp)) (fun k hk => (D.out.2.1.lt k hk).1))
    refine hK'.out _ _ D10.out (fun _ => ?_)
    clear hK' K'
    try simp only [Act.put, l0, l1, l2]
    refine rd1 8 ⟨some 32, .call { callee := .value (.func 90), args := #[.tmp 29, .tmp 31], argTypes := #[23, 25] }, _, _, _, none⟩ (by kernel_rfl) rfl fun K' hK' => ?_
    go_simp
    go_at_call 90
    refine (word_ow y (⟨H10.out.1, H10.out.2⟩ : Ow w.heap.size w10 A10 (n0 + 1) c10 _) (by omega)).mono ?_
    rintro E w11 ⟨A11, n11, c11, rfl, H11, hb11⟩
    have O11 := iq H11
    clear H11
    have hl10 : wr.heap.size < w10.heap.size := Nat.lt_of_lt_of_le D8.out.2.2 (Nat.le_trans (by simp) G10.out.size)
    have D11 : Hid (w11.cell? ⟨wr.heap.size, 0, none⟩ = some (.int .i64 x) /\ w11.cell? ⟨wr.heap.size, 1, none⟩ = some (.int .u64 (y : Int))) := iq ⟨(hb11.out.cell (p := ⟨wr.heap.size, 0, none⟩) hl10).trans D10.out.1, (hb11.out.cell (p := ⟨wr.heap.size, 1, none⟩) hl10).trans D10.out.2⟩
    refine hK'.out _ _ D11.out (fun _ => ?_)
    clear hK' K'
    try simp only [Act.put, l0, l1, l2]
    refine tk 9 ⟨some 0, .assign (.tmp 32), _, _, _, none⟩ (.slice A11 n11 c11) rfl (by kernel_rfl) (fun _ _ _ => id) (D11.out) (fun W hSW => by go_simp) ?_
    try simp only [pu, l0, l1]
    refine wpAnyH_done (by kernel_rfl) ?_ _
    go_wp2_with fail
    go_roundw
    case measure => simp [intOf] <;> omega
    case rel =>
     refine ⟨j + 1, by omega, by go_num, _, _, _, rfl, ?_, iq ⟨B10.out.trans (hb11.out.mono B10.out.size), ?_⟩⟩
     ·have h1 := O11.out.len
      have h2 := D.out.2.len
      simp only [List.length_append, be_length, List.length_cons, List.length_nil] at h1 h2
      omega
     ·have := O11.out.low B10.out.size
      rw [HT.out]
      simpa [pairB, List.append_assoc] using this
   ·have HE : Hid (bs ++ be 8 b.view ++ [byteOf (m : Int)] ++ pairsB (b.qs.take j) = bs ++ (be 8 b.view ++ (byteOf (m : Int) :: pairsB b.qs))) := iq (by rw [List.take_of_length_le (by rw [<- HMQ.out]; omega)]; simp)
    go_wp2_with fail
    go_ret
    exact ⟨_, _, _, rfl, by have := D.out.2; rwa [HE.out] at this, iq D.out.1⟩
 ·go_simp
  have hb3 : Hid (Below w3.heap.size w3 (w3.alloc (.cells #[.int .u8 ((byteOf (m : Int)).toNat : Int)] 5))) := iq (bl.alloc (Nat.le_refl _) _)
  refine hK'.out _ _ hb3.out (fun _ => ?_)
  clear hK' K'
  try simp only [Act.put, l0, l1, l2]
  refine rd1 3 ⟨some 10, .call { callee := .value (.func 90), args := #[.tmp 7, .tmp 9], argTypes := #[23, 25] }, _, _, _, none⟩ (by kernel_rfl) rfl fun K' hK' => ?_
  go_simp
  go_at_call 90
  refine (word_ow b.view (HQ.out.2.2.2.below (bl.alloc (Nat.le_refl _) (.cells #[.int .u8 ((byteOf (m : Int)).toNat : Int)] 5))) (by omega)).mono ?_
  rintro E w4 ⟨Aw4, nw4, cw4, rfl, H4, hb4⟩
  have lw4 := H4.len
  have Ow4 := iq H4
  clear H4
  simp only [List.length_append, be_length] at lw4
  have hb5 : Hid (Below w3.heap.size w3 w4) := iq (((Below.refl w3.heap.size w3).alloc (Nat.le_refl _) (.cells #[.int .u8 ((byteOf (m : Int)).toNat : Int)] 5)).trans (hb4.out.mono (by simp)))
  refine hK'.out _ _ hb5.out (fun _ => ?_)
  clear hK' K'
  try simp only [Act.put, l0, l1, l2]
  have O5 : Hid (Ow w3.heap.size w4 Aw4 nw4 cw4 (bs ++ be 8 b.view)) := iq (Ow4.out.low (by simp))
  refine rd1 9 ⟨some 16, .call { callee := .builtin .append, args := #[.tmp 10, .tmp 15], argTypes := #[23, 23] }, _, _, _, none⟩ (by kernel_rfl) rfl fun K' hK' => ?_
  refine step_append_gb rfl (.tmp 10) (.tmp 15) rfl w3.heap.size nw4 1 1 (.slice Aw4 nw4 cw4) (some ⟨w3.heap.size, 0, none⟩) (bs ++ be 8 b.view) [byteOf (m : Int)] rfl rfl (O5.out.1) (Pr := fun _ => True) ((rd_byte (w := w3) rfl).below hb4.out (fun b hb _ => hb)) sl_1 (hb5.out.size) (by omega) ?_
  intro A6 c6 w6 H6 G6
  have hb6 := iq ((hb5.out).grown G6.out (hb5.out.size) (fun k hk => ((O5.out.1).lt k hk).1))
  refine hK'.out _ _ hb6.out (fun _ => ?_)
  clear hK' K'
  try simp only [Act.put, l0, l1, l2]
  refine tk 10 ⟨some 0, .assign (.tmp 16), _, _, _, none⟩ (.slice A6 (nw4 + 1) c6) rfl (by kernel_rfl) (fun _ _ _ => id) (hb6.out) (fun W hSW => by go_simp) ?_
  try simp only [pu, l0, l1]
  refine wpAnyH_done (by kernel_rfl) ?_ _
  have D6 : Hid (Below w.heap.size w w6 /\ Ow w.heap.size w6 A6 (nw4 + 1) c6 (bs ++ be 8 b.view ++ [byteOf (m : Int)] ++ pairsB (b.qs.take 0))) := iq ⟨HQ.out.2.1.trans (hb6.out.mono HQ.out.2.1.size), by rw [List.take_zero, pairsB, List.flatMap_nil, List.append_nil]; exact ⟨own_low H6.out.1 HQ.out.2.1.size, H6.out.2⟩⟩
  have q6 : w6.cell? ⟨w.heap.size, 43, none⟩ = some (.slice b.qa m b.qc) := (hb6.out.cell (p := ⟨w.heap.size, 43, none⟩) HQ.out.2.2.1).trans HQ3.out
  have hn6 : nw4 + 1 <= 1000100 := by omega
  generalize nw4 + 1 = n6 at D6 hn6 ⊢
  clear hb6 H6 G6 HQ HQ3
  go_wp2_with fail
  clear q6
  go_loopw [0, 20] (fun v0 v20 wr => ∃ j : Nat, j <= m /\ v20 = .int .i64 (j : Int) /\ ∃ A0 n0 c0, v0 = .slice A0 n0 c0 /\ n0 <= 1000100 + 9 * j /\ Hid (Below w.heap.size w wr /\ Ow w.heap.size wr A0 n0 c0 (bs ++ be 8 b.view ++ [byteOf (m : Int)] ++ pairsB (b.qs.take j)))) (fun _ v20 _ => m - (intOf v20).toNat)
  case atStart => exact ⟨0, by omega, rfl, _, _, _, rfl, by omega, D6⟩
  case round =>
   clear D6 hn6
   obtain ⟨j, hj, rfl, A0, n0, c0, rfl, hn0, D⟩ := hrel
   by_cases hjj : j < m
   ·obtain ⟨p, hp⟩ : ∃ p, b.qs[j]? = some p := ⟨_, List.getElem?_eq_getElem (by rw [<- HMQ.out]; exact hjj)⟩
    obtain ⟨bq, oq, hqa, hbq, hcq⟩ := HQP.out (by rw [<- HMQ.out]; omega)
    have p0 : wr.cell? ⟨bq, oq + j * 2, none⟩ = some (.int .i64 p.1) := (D.out.1.cell (p := ⟨bq, oq + j * 2, none⟩) hbq).trans (hcq j p hp).1
    have p1 : wr.cell? ⟨bq, oq + j * 2 + 1, none⟩ = some (.int .u64 (p.2 : Int)) := (D.out.1.cell (p := ⟨bq, oq + j * 2 + 1, none⟩) hbq).trans (hcq j p hp).2
    have HT := iq (pairsB_take hp)
    have HW : Hid (IntKind.u8.wrap p.1 = ((byteOf p.1).toNat : Int)) := iq (u8_wrap (by have := HRP.out p (List.mem_of_getElem? hp); omega))
    obtain ⟨x, y⟩ := p
    rw [hqa]
    clear hp hcq
    dsimp only at p0 p1 HW
    go_wp2_with fail
    refine wp_region_any (by kernel_rfl) ?_
    change wpAny _ _ _ _ _ _ _ ((wr.alloc (.cells #[.int .i64 x, .int .u64 (y : Int)] 55)).drewN 1)
    have D8 : Hid ((((wr.alloc (.cells #[.int .i64 x, .int .u64 (y : Int)] 55)).drewN 1).cell? ⟨wr.heap.size, 0, none⟩ = some (.int .i64 x) /\ ((wr.alloc (.cells #[.int .i64 x, .int .u64 (y : Int)] 55)).drewN 1).cell? ⟨wr.heap.size, 1, none⟩ = some (.int .u64 (y : Int))) /\ Below wr.heap.size wr ((wr.alloc (.cells #[.int .i64 x, .int .u64 (y : Int)] 55)).drewN 1) /\ wr.heap.size < ((wr.alloc (.cells #[.int .i64 x, .int .u64 (y : Int)] 55)).drewN 1).heap.size) := iq ⟨⟨range_box wr [.int .i64 x, .int .u64 (y : Int)] 55 0 _ rfl, range_box wr [.int .i64 x, .int .u64 (y : Int)] 55 1 _ rfl⟩, below_drewN (bl.alloc (Nat.le_refl _) _) 1, by simp⟩
    clear p0 p1
    generalize (wr.alloc (.cells #[.int .i64 x, .int .u64 (y : Int)] 55)).drewN 1 = w8 at D8 ⊢
    refine wpAny_of_held (S := fun W => W.cell? ⟨wr.heap.size, 0, none⟩ = some (.int .i64 x) /\ W.cell? ⟨wr.heap.size, 1, none⟩ = some (.int .u64 (y : Int))) _ _ _ _ ?_
    refine tk 0 ⟨some 24, .move (.tmp 0), _, _, _, none⟩ (.slice A0 n0 c0) rfl (by kernel_rfl) (fun _ _ _ => id) (D8.out.1) (fun W hSW => by go_simp) ?_
    try simp only [Act.put, l0, l1, l2]
    refine tk 1 ⟨some 25, .fieldAddr 55 (.tmp 6) 0, _, _, _, none⟩ (.pointer (some ⟨wr.heap.size, 0, none⟩)) rfl (by kernel_rfl) (fun _ _ _ => id) (D8.out.1) (fun W hSW => by go_simp) ?_
    try simp only [pu, l0, l1, l2]
    refine tk 2 ⟨some 26, .load 3 (.tmp 25), _, _, _, none⟩ (.int .i64 x) rfl (by kernel_rfl) (fun _ _ _ => id) (D8.out.1) (fun W hSW => by have hv := hSW.1; go_simp) ?_
    try simp only [pu, l0, l1, l2]
    refine tk 3 ⟨some 27, .convert 3 5 (.tmp 26), _, _, _, none⟩ (.int .u8 ((byteOf x).toNat : Int)) rfl (by kernel_rfl) (fun _ _ _ => id) (D8.out.1) (fun W hSW => by have hv := HW.out; go_simp) ?_
    try simp only [pu, l0, l1, l2]
    refine tk 6 ⟨some 30, .fieldAddr 55 (.tmp 6) 1, _, _, _, none⟩ (.pointer (some ⟨wr.heap.size, 1, none⟩)) rfl (by kernel_rfl) (fun _ _ _ => id) (D8.out.1) (fun W hSW => by go_simp) ?_
    try simp only [pu, l0, l1, l2]
    refine tk 7 ⟨some 31, .load 25 (.tmp 30), _, _, _, none⟩ (.int .u64 (y : Int)) rfl (by kernel_rfl) (fun _ _ _ => id) (D8.out.1) (fun W hSW => by have hv := hSW.2; go_simp) ?_
    try simp only [pu, l0, l1, l2]
    refine rd1 4 ⟨some 28, .buildSlice 23 1 #[(0, .tmp 27)], _, _, _, none⟩ (by kernel_rfl) rfl fun K' hK' => ?_
    go_simp
    have D9 : Hid (((w8.alloc (.cells #[.int .u8 ((byteOf x).toNat : Int)] 5)).cell? ⟨wr.heap.size, 0, none⟩ = some (.int .i64 x) /\ (w8.alloc (.cells #[.int .u8 ((byteOf x).toNat : Int)] 5)).cell? ⟨wr.heap.size, 1, none⟩ = some (.int .u64 (y : Int)))) := iq ⟨(((Below.refl w8.heap.size w8).alloc (Nat.le_refl _) (.cells #[.int .u8 ((byteOf x).toNat : Int)] 5)).cell (p := ⟨wr.heap.size, 0, none⟩) D8.out.2.2).trans D8.out.1.1, (((Below.refl w8.heap.size w8).alloc (Nat.le_refl _) (.cells #[.int .u8 ((byteOf x).toNat : Int)] 5)).cell (p := ⟨wr.heap.size, 1, none⟩) D8.out.2.2).trans D8.out.1.2⟩
    refine hK'.out _ _ D9.out (fun _ => ?_)
    clear hK' K'
    try simp only [Act.put, l0, l1, l2]
    have O9 := iq ((D.out.2.below D8.out.2.1).below (bl.alloc (Nat.le_refl _) (.cells #[.int .u8 ((byteOf x).toNat : Int)] 5)))
    refine rd1 5 ⟨some 29, .call { callee := .builtin .append, args := #[.tmp 24, .tmp 28], argTypes := #[23, 23] }, _, _, _, none⟩ (by kernel_rfl) rfl fun K' hK' => ?_
    refine step_append_gb rfl (.tmp 24) (.tmp 28) rfl w.heap.size n0 1 1 (.slice A0 n0 c0) (some ⟨w8.heap.size, 0, none⟩) (bs ++ be 8 b.view ++ [byteOf (m : Int)] ++ pairsB (b.qs.take j)) [byteOf x] rfl rfl O9.out.1 (Pr := fun _ => True) (rd_byte rfl) sl_1 (Nat.le_trans (Nat.le_trans D.out.1.size D8.out.2.1.size) (by simp)) (by omega) ?_
    intro A10 c10 w10 H10 G10
    have hne : ∀ k, (Value.slice A0 n0 c0).ownBlock = some k -> k < wr.heap.size := fun k hk => (D.out.2.1.lt k hk).2
    have D10 : Hid (w10.cell? ⟨wr.heap.size, 0, none⟩ = some (.int .i64 x) /\ w10.cell? ⟨wr.heap.size, 1, none⟩ = some (.int .u64 (y : Int))) := iq ⟨G10.out.cell D9.out.1 (fun e => by have := hne _ e.symm; simp at this), G10.out.cell D9.out.2 (fun e => by have := hne _ e.symm; simp at this)⟩
    have B10 : Hid (Below w.heap.size w w10) := iq (((D.out.1.trans (D8.out.2.1.mono D.out.1.size)).alloc (Nat.le_trans D.out.1.size D8.out.2.1.size) _).grown G10.out (Nat.le_trans (Nat.le_trans D.out.1.size D8.out.2.1.size) (by simp)) (fun k hk => (D.out.2.1.lt k hk).1))
    refine hK'.out _ _ D10.out (fun _ => ?_)
    clear hK' K'
    try simp only [Act.put, l0, l1, l2]
    refine rd1 8 ⟨some 32, .call { callee := .value (.func 90), args := #[.tmp 29, .tmp 31], argTypes := #[23, 25] }, _, _, _, none⟩ (by kernel_rfl) rfl fun K' hK' => ?_
    go_simp
    go_at_call 90
    refine (word_ow y (⟨H10.out.1, H10.out.2⟩ : Ow w.heap.size w10 A10 (n0 + 1) c10 _) (by omega)).mono ?_
    rintro E w11 ⟨A11, n11, c11, rfl, H11, hb11⟩
    have O11 := iq H11
    clear H11
    have hl10 : wr.heap.size < w10.heap.size := Nat.lt_of_lt_of_le D8.out.2.2 (Nat.le_trans (by simp) G10.out.size)
    have D11 : Hid (w11.cell? ⟨wr.heap.size, 0, none⟩ = some (.int .i64 x) /\ w11.cell? ⟨wr.heap.size, 1, none⟩ = some (.int .u64 (y : Int))) := iq ⟨(hb11.out.cell (p := ⟨wr.heap.size, 0, none⟩) hl10).trans D10.out.1, (hb11.out.cell (p := ⟨wr.heap.size, 1, none⟩) hl10).trans D10.out.2⟩
    refine hK'.out _ _ D11.out (fun _ => ?_)
    clear hK' K'
    try simp only [Act.put, l0, l1, l2]
    refine tk 9 ⟨some 0, .assign (.tmp 32), _, _, _, none⟩ (.slice A11 n11 c11) rfl (by kernel_rfl) (fun _ _ _ => id) (D11.out) (fun W hSW => by go_simp) ?_
    try simp only [pu, l0, l1]
    refine wpAnyH_done (by kernel_rfl) ?_ _
    go_wp2_with fail
    go_roundw
    case measure => simp [intOf] <;> omega
    case rel =>
     refine ⟨j + 1, by omega, by go_num, _, _, _, rfl, ?_, iq ⟨B10.out.trans (hb11.out.mono B10.out.size), ?_⟩⟩
     ·have h1 := O11.out.len
      have h2 := D.out.2.len
      simp only [List.length_append, be_length, List.length_cons, List.length_nil] at h1 h2
      omega
     ·have := O11.out.low B10.out.size
      rw [HT.out]
      simpa [pairB, List.append_assoc] using this
   ·have HE : Hid (bs ++ be 8 b.view ++ [byteOf (m : Int)] ++ pairsB (b.qs.take j) = bs ++ (be 8 b.view ++ (byteOf (m : Int) :: pairsB b.qs))) := iq (by rw [List.take_of_length_le (by rw [<- HMQ.out]; omega)]; simp)
    go_wp2_with fail
    go_ret
    exact ⟨_, _, _, rfl, by have := D.out.2; rwa [HE.out] at this, iq D.out.1⟩
open Go.RowKit
theorem run_getObj_mp {P : Program} {w : World} {r : Nat} {es : Array MapEntry} {clock : Nat} (hb : w.heap[r]? = some (.map es clock)) : (getObj r).run P w = .ok (.map es clock) w := by
 simp [getObj, Sem.run, hb]
theorem run_setObj_mp {P : Program} {w : World} {r : Nat} {es : Array MapEntry} {clock : Nat} (o : Obj) (hb : w.heap[r]? = some (.map es clock)) : (setObj r o).run P w = .ok () { w with heap := w.heap.setIfInBounds r o } := by
 simp [setObj, Sem.run, hb]
theorem run_key_int {P : Program} {kt : TypeId} {kd : IntKind} (hk : P.underlying kt = some (.int kd)) (n : Nat) (b : Bool) (x : Int) (w : World) : (Instr.checkKey b (n + 1) kt (.int kd x)).run P w = .ok () w := by
 simp [Instr.checkKey, run_underlying hk]
theorem run_put_new {P : Program} {t kt et : TypeId} {kd : IntKind} {w : World} {r : Nat} {es : Array MapEntry} {clock : Nat} (ht : P.underlying t = some (.map kt et)) (hk : P.underlying kt = some (.int kd))
  (hb : w.heap[r]? = some (.map es clock)) (x : Int) (v : Value) (hn : Instr.findNow (.int kd) (.int kd x) es.toList 0 = some none) :
  (Instr.mapUpdate t (.map (some r)) (.int kd x) v).run P w = .ok () { w with heap := w.heap.setIfInBounds r (.map (es.push { key := .int kd x, val := v, born := clock }) (clock + 1)) } := by
 have hc : (Instr.checkKey false 10000 kt (.int kd x)).run P w = .ok () w := run_key_int hk 9999 false x w
 have hf : (Instr.findKey kt (.int kd x) es.toList).run P w = .ok none w := by
  simp [Instr.findKey, run_underlying hk, hn]
 simp only [Instr.mapUpdate, Sem.run_bind, run_underlying ht, Result.andThen_ok, run_getObj_mp hb, hc, hf, run_setObj_mp _ hb]
theorem run_look_at {P : Program} {t kt et : TypeId} {kd : IntKind} {w : World} {r : Nat} {es : Array MapEntry} {clock : Nat} (ht : P.underlying t = some (.map kt et)) (hk : P.underlying kt = some (.int kd))
  (hb : w.heap[r]? = some (.map es clock)) (x : Int) (v : Value) (i : Nat) (hn : Instr.findNow (.int kd) (.int kd x) es.toList 0 = some (some (i, v))) (ok : Bool) :
  (Instr.lookup t (.map (some r)) (.int kd x) ok).run P w = .ok (if ok then .tuple #[v, .bool true] else v) w := by
 have hc : ∀ b, (Instr.checkKey b 10000 kt (.int kd x)).run P w = .ok () w := fun b => run_key_int hk 9999 b x w
 have hf : (Instr.findKey kt (.int kd x) es.toList).run P w = .ok (some (i, v)) w := by
  simp [Instr.findKey, run_underlying hk, hn]
 simp only [Instr.lookup, Sem.run_bind, run_underlying ht, Result.andThen_ok, run_getObj_mp hb, hc, hf, Sem.run_pure]
theorem wpList_insert {P : Program} {w : World} {ops : Array Oper} {rest : List Oper} {o : Oper} {a : Act} {Q : Exit -> Act -> World -> Prop} (hg : o.guard = none) (m x v : Operand) (t kt et : TypeId) (kd : IntKind) (hop : o.op = Op.insert t m x v)
  (ht : P.underlying t = some (.map kt et)) (hk : P.underlying kt = some (.int kd)) (r : Nat) (es : Array MapEntry) (clock : Nat) (k : Int) (val : Value) (hm : a.eval m = .map (some r)) (hb : w.heap[r]? = some (.map es clock)) (hx : a.eval x = .int kd k) (hv : a.eval v = val)
  (hn : Instr.findNow (.int kd) (.int kd k) es.toList 0 = some none)
  (h : ∀ w', Hid (w'.heap[r]? = some (.map (es.push { key := .int kd k, val := val, born := clock }) (clock + 1)) /\ w.grownBy w' (some r)) -> wpList P ops Q rest (a.put o.dst undef) w') : wpList P ops Q (o :: rest) a w := by
 refine wpList_plain hg fun K hK => ?_
 unfold Oper.wp
 simp only [execOp, hop, hm, hx, hv, Sem.run_bind, run_put_new ht hk hb k val hn, Result.andThen_ok, Sem.run_pure]
 have hlt : r < w.heap.size := (Array.getElem?_eq_some_iff.1 hb).1
 refine hK _ _ (h _ (iq ⟨by simp [hlt], rfl, rfl, rfl, by simp, fun k _ hne => ?_⟩))
 rw [Array.getElem?_setIfInBounds_ne (fun e => hne (by rw [e]))]
def wrE : Array MapEntry := #[{ key := .int .u8 1, val := .func (.func 104) #[] #[], born := 0 }, { key := .int .u8 2, val := .func (.func 105) #[] #[], born := 1 }, { key := .int .u8 3, val := .func (.func 106) #[] #[], born := 2 }, { key := .int .u8 4, val := .func (.func 107) #[] #[], born := 3 }, { key := .int .u8 5, val := .func (.func 106) #[] #[], born := 4 }, { key := .int .u8 6, val := .func (.func 108) #[] #[], born := 5 }]
theorem below_at {r : Nat} {w w1 w2 : World} (h : Below w.heap.size w w1) (g : w1.grownBy w2 (some r)) (hr : w.heap.size <= r := by exact Nat.le_refl _) : Below w.heap.size w w2 := h.grown g h.size (fun k hk => by injection hk with e; omega)
theorem writers_ms (w : World) : Calls Tryz.prog 91 #[] w fun E w' => E = .returned (.map (some w.heap.size)) /\ w'.heap[w.heap.size]? = some (.map wrE 6) /\ Below w.heap.size w w' := by
 have hmk := run_makeMap (P := Tryz.prog) 137
 have HM0 : Hid ((w.alloc (.map #[] 0)).heap[w.heap.size]? = some (.map #[] 0)) := iq (heap_alloc_new w _)
 go_enter Tryz.func91, Tryz.ntmps91
 go_wp2_with (first | (refine wpList_insert rfl (.tmp 1) (.const (.int .u8 1)) (.func 104) 137 5 _ .u8 rfl Tryz.underlying137 Tryz.underlying5 w.heap.size (#[]) 0 1 _ rfl HM0.out rfl rfl (by kernel_rfl) ?_; intro w1 G1) | (refine wpList_insert rfl (.tmp 1) (.const (.int .u8 2)) (.func 105) 137 5 _ .u8 rfl Tryz.underlying137 Tryz.underlying5 w.heap.size (#[{ key := .int .u8 1, val := .func (.func 104) #[] #[], born := 0 }]) 1 2 _ rfl G1.out.1 rfl rfl (by kernel_rfl) ?_; intro w2 G2) | (refine wpList_insert rfl (.tmp 1) (.const (.int .u8 3)) (.func 106) 137 5 _ .u8 rfl Tryz.underlying137 Tryz.underlying5 w.heap.size (#[{ key := .int .u8 1, val := .func (.func 104) #[] #[], born := 0 }, { key := .int .u8 2, val := .func (.func 105) #[] #[], born := 1 }]) 2 3 _ rfl G2.out.1 rfl rfl (by kernel_rfl) ?_; intro w3 G3) | (refine wpList_insert rfl (.tmp 1) (.const (.int .u8 4)) (.func 107) 137 5 _ .u8 rfl Tryz.underlying137 Tryz.underlying5 w.heap.size (#[{ key := .int .u8 1, val := .func (.func 104) #[] #[], born := 0 }, { key := .int .u8 2, val := .func (.func 105) #[] #[], born := 1 }, { key := .int .u8 3, val := .func (.func 106) #[] #[], born := 2 }]) 3 4 _ rfl G3.out.1 rfl rfl (by kernel_rfl) ?_; intro w4 G4) | (refine wpList_insert rfl (.tmp 1) (.const (.int .u8 5)) (.func 106) 137 5 _ .u8 rfl Tryz.underlying137 Tryz.underlying5 w.heap.size (#[{ key := .int .u8 1, val := .func (.func 104) #[] #[], born := 0 }, { key := .int .u8 2, val := .func (.func 105) #[] #[], born := 1 }, { key := .int .u8 3, val := .func (.func 106) #[] #[], born := 2 }, { key := .int .u8 4, val := .func (.func 107) #[] #[], born := 3 }]) 4 5 _ rfl G4.out.1 rfl rfl (by kernel_rfl) ?_; intro w5 G5) | (refine wpList_insert rfl (.tmp 1) (.const (.int .u8 6)) (.func 108) 137 5 _ .u8 rfl Tryz.underlying137 Tryz.underlying5 w.heap.size (#[{ key := .int .u8 1, val := .func (.func 104) #[] #[], born := 0 }, { key := .int .u8 2, val := .func (.func 105) #[] #[], born := 1 }, { key := .int .u8 3, val := .func (.func 106) #[] #[], born := 2 }, { key := .int .u8 4, val := .func (.func 107) #[] #[], born := 3 }, { key := .int .u8 5, val := .func (.func 106) #[] #[], born := 4 }]) 5 6 _ rfl G5.out.1 rfl rfl (by kernel_rfl) ?_; intro w6 G6))
 go_ret
 exact ⟨rfl, G6.out.1, below_at (below_at (below_at (below_at (below_at (below_at (bl.alloc (Nat.le_refl _) _) G1.out.2) G2.out.2) G3.out.2) G4.out.2) G5.out.2) G6.out.2⟩
end Go.Proofs.YtllbbcifcbkgeaaGreatDoor.Sh
