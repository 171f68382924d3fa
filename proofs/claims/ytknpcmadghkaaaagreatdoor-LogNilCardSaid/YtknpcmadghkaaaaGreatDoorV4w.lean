/- Laws and walks. -/
import Derived.Test.YtknpcmadghkaaaaGreatDoorV2w
import Derived.Test.YtknpcmadghkaaaaGreatDoorV3w
set_option maxHeartbeats 16000000
set_option maxRecDepth 100000
namespace Go.Proofs.YtknpcmadghkaaaaGreatDoor.Sh
open Go.RowKit
def Ow (B : Nat) (w : World) (A : Option Addr) (n c : Nat) (bs : List UInt8) : Prop := w.ownsRow B 5 1 (.slice A n c) n (u8s bs) /\ Sl A n c
theorem own_low {w : World} {B B' n : Nat} {v : Value} {xs : List Value} (h : w.ownsRow B 5 1 v n xs) (hB : B' <= B) : w.ownsRow B' 5 1 v n xs := by
 rcases h.2 with ⟨h1, h2⟩ | ⟨g, cap, cur, h1, h2, h3⟩
 ·exact ⟨h.1, .inl ⟨h1, h2⟩⟩
 ·exact ⟨h.1, .inr ⟨g, cap, cur, h1, Nat.le_trans hB h2, h3⟩⟩
theorem Ow.low {B B' n c : Nat} {w : World} {A : Option Addr} {bs : List UInt8} (h : Ow B w A n c bs) (hB : B' <= B) : Ow B' w A n c bs := ⟨own_low h.1 hB, h.2⟩
theorem Ow.rd {B n c : Nat} {w : World} {A : Option Addr} {bs : List UInt8} (h : Ow B w A n c bs) : Rd (B <= ·) w A n bs := Rd.of_own h.1
theorem Ow.len {B n c : Nat} {w : World} {A : Option Addr} {bs : List UInt8} (h : Ow B w A n c bs) : bs.length = n := h.rd.1
theorem Ow.below {B n c : Nat} {w w' : World} {A : Option Addr} {bs : List UInt8} (h : Ow B w A n c bs) (hb : Below w.heap.size w w') : Ow B w' A n c bs :=
 ⟨h.1.kept (gb_below hb none) (by cases (Value.slice A n c).ownBlock <;> simp), h.2⟩
theorem Ow.nil (B : Nat) (w : World) : Ow B w none 0 0 [] := ⟨World.ownsRow_nil _ _ _ _, fun _ => ⟨rfl, rfl⟩, Nat.le_refl _, by omega⟩
theorem word_ow {B n c : Nat} {w : World} {A : Option Addr} {bs : List UInt8} (num : Nat) (h : Ow B w A n c bs) (hn : n <= 100000000) :
  Calls Tryz.prog 165 #[.slice A n c, .int .u64 (num : Int)] w fun E w' => ∃ A' n' c', E = .returned (.slice A' n' c') /\ Ow w.heap.size w' A' n' c' (bs ++ be 8 num) /\ Hid (Below w.heap.size w w') :=
 (word_any A n c bs num w h.rd (by omega)).mono fun E w' ⟨g, c', he, ho, hb⟩ => ⟨_, _, c', he, ⟨ho, own_some_shape ho⟩, hb⟩
def txtB (s : ByteArray) : List UInt8 := be 2 s.size ++ s.data.toList
theorem text_ow {B n c : Nat} {w : World} {A : Option Addr} {bs : List UInt8} (s : ByteArray) (h : Ow B w A n c bs) (hn : n <= 100000000) (hs : s.size <= 65535) :
  Calls Tryz.prog 166 #[.slice A n c, .string s] w fun E w' => ∃ A' n' c', E = .returned (.tuple #[.slice A' n' c', .int .i64 0]) /\ Ow w.heap.size w' A' n' c' (bs ++ txtB s) /\ Hid (Below w.heap.size w w') := by
 have hr : Oct.Rd w A n bs := ⟨h.rd.1, fun hn => let ⟨b, o, e, hb, _, hc⟩ := h.rd.2 hn; ⟨b, o, e, hb, hc⟩⟩
 refine (Oct.text_ok A n c bs s w hr (by omega) hs).mono fun E w' ⟨A', c', he, ho, hsl, hb⟩ => ⟨A', _, c', he, ⟨?_, hsl⟩, hb⟩
 rw [List.append_assoc] at ho
 exact ho
def byteOf (i : Int) : UInt8 := UInt8.ofNat i.toNat
theorem byteOf_val {i : Int} (h : 0 <= i /\ i < 256) : ((byteOf i).toNat : Int) = i := by
 unfold byteOf
 simp
 omega
def reqB (r : MReq) : List UInt8 := byteOf r.client :: r.op.kind :: (be 8 r.time ++ (be 8 r.op.amount ++ (txtB r.op.key ++ (txtB r.op.value ++ (txtB r.op.old ++ txtB r.op.to)))))
def pairB (p : Int × Nat) : List UInt8 := byteOf p.1 :: be 8 p.2
def pairsB (qs : List (Int × Nat)) : List UInt8 := qs.flatMap pairB
def bodyB (b : MBody) : List UInt8 :=
 if b.kind = 1 then be 8 b.view ++ (reqB b.req ++ b.req.tag)
 else if b.kind = 2 then be 8 b.view ++ be 8 b.k
 else if b.kind = 4 then be 8 b.view ++ (byteOf (b.qs.length : Int) :: pairsB b.qs)
 else if b.kind = 6 then be 8 b.k ++ b.dig
 else be 8 b.view
def depsB (l : List Nat) : List UInt8 := l.flatMap (be 8)
def msgB (m : MMsg) : List UInt8 := byteOf m.origin :: (depsB m.deps ++ (m.body.kind :: bodyB m.body))
open Go.RowKit
theorem rd_of_range {w : World} {g o : Nat} {bs : List UInt8} (h : w.rangeAt g o (u8s bs)) (hl : bs.length = 32) (hg : g < w.heap.size) : Rd (fun _ => True) w (some ⟨g, o, none⟩) 32 bs :=
 ⟨hl, fun _ => ⟨g, o, rfl, hg, trivial, fun j u hu => h j _ (by simp [u8s, hu])⟩⟩
theorem sl_32 {a : Addr} : Sl (some a) 32 32 := ⟨(fun h => by cases h), Nat.le_refl _, by omega⟩
open Go.RowKit
theorem wpList_append_made {wr : World} {ops : Array Oper} {rest : List Oper} {o : Oper} {a : Act} {Q : Exit -> Act -> World -> Prop} (hgd : o.guard = none) (s x : Operand)
  (ho : o.op = Op.call { callee := Callee.builtin Builtin.append, args := #[s, x], argTypes := #[23, 23] })
  (B n k g : Nat) (v : Value) (xs us : List UInt8) (zs : Array Value) (hg : g = wr.heap.size) (hs : a.eval s = v) (hx : a.eval x = .slice (some ⟨g, 0, none⟩) k k)
  (hown : wr.ownsRow B 5 1 v n (u8s xs)) (hB : B <= wr.heap.size) (hz : zs = (u8s us).toArray) (hk : us.length = k) (hm : n + k <= 140737488355328)
  (h : ∀ A' c' w', Hid (w'.ownsRow B 5 1 (.slice A' (n + k) c') (n + k) (u8s (xs ++ us)) /\ Sl A' (n + k) c') -> Hid (wr.grownBy w' v.ownBlock) -> wpList Tryz.prog ops Q rest (a.put o.dst (.slice A' (n + k) c')) w') :
  wpList Tryz.prog ops Q (o :: rest) a (wr.alloc (.cells zs 5)) := by
 subst hz hg
 refine wpList_append_gb hgd s x ho B n k k v _ xs us hs hx (hown.alloc _) (Pr := fun _ => True) ⟨hk, fun _ => ⟨_, 0, rfl, by simp, trivial, fun j y hy => ?_⟩⟩ ⟨(fun h => (by cases h)), Nat.le_refl _, by omega⟩ (by simp; omega) hm
  fun A' c' w' h1 h2 => h A' c' w' h1 (iq (gb_trans (World.grownBy_alloc wr _ _) h2.out))
 exact range_box wr (u8s us) 5 j _ (by simp [u8s, hy])
structure RqAt (B : Nat) (w : World) (C : List Value) (wr : World) : Prop where
 bel : Below B w wr
 lt : w.heap.size < wr.heap.size
 src : wr.rangeAt w.heap.size 0 C
theorem RqAt.next {B : Nat} {w wr w' : World} {C : List Value} (H : RqAt B w C wr) (hB : B <= w.heap.size) (hb : Below wr.heap.size wr w') : RqAt B w C w' :=
 ⟨H.bel.trans (hb.mono (Nat.le_trans hB (Nat.le_of_lt H.lt))), Nat.lt_of_lt_of_le H.lt hb.size, rangeAt_below H.src hb H.lt⟩
theorem RqAt.drewN {B : Nat} {w wr : World} {C : List Value} (H : RqAt B w C wr) (q : Nat) : RqAt B w C (wr.drewN q) := ⟨below_drewN H.bel q, H.lt, H.src⟩
theorem RqAt.grown {B n : Nat} {w wr w' : World} {C : List Value} {v : Value} {xs : List Value} (H : RqAt B w C wr) (hB : B <= w.heap.size) (ho : w.ownsRow B 5 1 v n xs) (hg : wr.grownBy w' v.ownBlock) : RqAt B w C w' :=
 ⟨H.bel.grown hg (Nat.le_trans hB (Nat.le_of_lt H.lt)) (fun k hk => (ho.lt k hk).1), Nat.lt_of_lt_of_le H.lt hg.size, fun j c hc => hg.cell (H.src j c hc) (fun e => by have := (ho.lt _ e.symm).2; simp at this)⟩
theorem RqAt.fresh {B n : Nat} {w wr w' : World} {C : List Value} {v : Value} {xs : List Value} (H : RqAt B w C wr) (hB : B <= w.heap.size) (ho : wr.ownsRow (w.heap.size + 1) 5 1 v n xs) (hg : wr.grownBy w' v.ownBlock) : RqAt B w C w' :=
 ⟨H.bel.grown hg (Nat.le_trans hB (Nat.le_of_lt H.lt)) (fun k hk => by have := (ho.lt k hk).1; omega), Nat.lt_of_lt_of_le H.lt hg.size, fun j c hc => hg.cell (H.src j c hc) (fun e => by have := (ho.lt _ e.symm).1; simp at this; omega)⟩
def textsB (l : List ByteArray) : List UInt8 := l.flatMap txtB
theorem txtB_len (s : ByteArray) : (txtB s).length = 2 + s.size := by
 rw [txtB, List.length_append, be_length]
 rfl
theorem textsB_take {l : List ByteArray} {j : Nat} {s : ByteArray} (h : l[j]? = some s) : textsB (l.take (j + 1)) = textsB (l.take j) ++ txtB s := by
 unfold textsB
 rw [List.take_add_one, h, List.flatMap_append]
 simp
theorem putRequest_ms (r : MReq) (B n c : Nat) (w : World) (A : Option Addr) (bs : List UInt8) (h : Ow B w A n c bs) (hB : B <= w.heap.size) (hn : n <= 1001000) (hr : reqMay r = true) :
  Calls Tryz.prog 152 #[.slice A n c, .agg (reqC r).toArray] w fun E w' => ∃ A' n' c', E = .returned (.slice A' n' c') /\ Ow w.heap.size w' A' n' c' (bs ++ reqB r) /\ Hid (Below B w w') := by
 have hl := h.len
 have HBB := iq hB
 have HO := iq h
 have HM : Hid ((1 <= r.client /\ r.client <= 8) /\ r.op.key.size <= 32 /\ r.op.to.size <= 32 /\ r.op.value.size <= 128 /\ r.op.old.size <= 128) := iq (by
  simp only [reqMay, opMay, Bool.and_eq_true, decide_eq_true_eq] at hr
  exact ⟨hr.1, hr.2.2.1.1, hr.2.2.1.2, hr.2.2.2.1, hr.2.2.2.2⟩)
 have hcw : IntKind.u8.wrap r.client = ((byteOf r.client).toNat : Int) := by
  rw [byteOf_val (by have := HM.out.1; omega)]
  have := HM.out.1
  unfold IntKind.wrap
  simp [IntKind.bits, IntKind.signed]
  omega
 have L := req_lies (range_box w (reqC r) 32)
 have c0 : (w.alloc (.cells (reqC r).toArray 32)).cell? ⟨w.heap.size, 0, none⟩ = some (.int .i64 r.client) := L.client
 have c2 : (w.alloc (.cells (reqC r).toArray 32)).cell? ⟨w.heap.size, 2, none⟩ = some (.int .u8 (r.op.kind.toNat : Int)) := L.op.kind
 have H0 : Hid (RqAt B w (reqC r) (w.alloc (.cells (reqC r).toArray 32))) := iq ⟨(bl.alloc (Nat.le_refl _) _).mono hB, by simp, range_box w (reqC r) 32⟩
 clear L hr h
 go_enter Tryz.func152, Tryz.ntmps152
 go_wp2_with (at_builtin; go_must (refine wpList_append_made rfl (.tmp 7) (.tmp 14) rfl B n 2 (w.heap.size + 1) (.slice A n c) bs [byteOf r.client, r.op.kind] _ (by simp) rfl rfl (HO.out.1.alloc _) (Nat.le_trans HBB.out (by simp)) rfl rfl (by omega) ?_); intro A1 c1 w1 K1 G1)
 have HQ0 := iq ((H0.out.grown HBB.out HO.out.1 G1.out))
 have O1 : Hid (Ow B w1 A1 (n + 2) c1 (bs ++ [byteOf r.client, r.op.kind])) := iq K1.out
 clear K1 G1 c0 c2 H0 hcw
 refine wp_region_any (by kernel_rfl) ?_
 change wpAny _ _ _ _ _ _ _ (w1.drewN 1)
 have HQ := iq (HQ0.out.drewN 1)
 have O3 : Hid (Ow B (w1.drewN 1) A1 (n + 2) c1 (bs ++ [byteOf r.client, r.op.kind])) := iq (O1.out.below (below_drewN bl 1))
 clear HQ0 O1
 generalize w1.drewN 1 = w3 at HQ O3 ⊢
 refine wpAny_of_held (S := fun W => Below w3.heap.size w3 W) _ _ _ _ ?_
 refine tk 0 ⟨some 16, .move (.tmp 0), _, _, _, none⟩ (.slice A1 (n + 2) c1) rfl (by kernel_rfl) (fun _ _ _ => id) bl (fun W hSW => by go_simp) ?_
 try simp only [Act.put, l0, l1, l2]
 refine tk 1 ⟨some 17, .fieldAddr 32 (.tmp 3) 1, _, _, _, none⟩ (.pointer (some ⟨w.heap.size, 1, none⟩)) rfl (by kernel_rfl) (fun _ _ _ => id) bl (fun W hSW => by go_simp) ?_
 try simp only [pu, l0, l1, l2]
 refine tk 2 ⟨some 18, .load 25 (.tmp 17), _, _, _, none⟩ (.int .u64 (r.time : Int)) rfl (by kernel_rfl) (fun _ _ _ => id) bl (fun W hSW => by have hv := (hSW.cell (p := ⟨w.heap.size, 1, none⟩) HQ.out.lt).trans (req_lies HQ.out.src).time; go_simp) ?_
 try simp only [pu, l0, l1, l2]
 refine tk 4 ⟨some 20, .fieldAddr 32 (.tmp 3) 2, _, _, _, none⟩ (.pointer (some ⟨w.heap.size, 2, none⟩)) rfl (by kernel_rfl) (fun _ _ _ => id) bl (fun W hSW => by go_simp) ?_
 try simp only [pu, l0, l1, l2]
 refine tk 5 ⟨some 21, .fieldAddr 29 (.tmp 20) 5, _, _, _, none⟩ (.pointer (some ⟨w.heap.size, 7, none⟩)) rfl (by kernel_rfl) (fun _ _ _ => id) bl (fun W hSW => by go_simp) ?_
 try simp only [pu, l0, l1, l2]
 refine tk 6 ⟨some 22, .load 25 (.tmp 21), _, _, _, none⟩ (.int .u64 (r.op.amount : Int)) rfl (by kernel_rfl) (fun _ _ _ => id) bl (fun W hSW => by have hv := (hSW.cell (p := ⟨w.heap.size, 7, none⟩) HQ.out.lt).trans (req_lies HQ.out.src).op.amount; go_simp) ?_
 try simp only [pu, l0, l1, l2]
 refine rd1 3 ⟨some 19, .call { callee := .value (.func 165), args := #[.tmp 16, .tmp 18], argTypes := #[23, 25] }, _, _, _, none⟩ (by kernel_rfl) rfl fun K' hK' => ?_
 go_simp
 go_at_call 165
 refine (word_ow r.time O3.out (by omega)).mono ?_
 rintro E w4 ⟨Aw4, nw4, cw4, rfl, H4, hb4⟩
 have lw4 := H4.len
 have Ow4 := iq H4
 clear H4
 simp only [List.length_append, be_length, List.length_cons, List.length_nil] at lw4
 refine hK'.out _ _ hb4.out (fun _ => wpAnyH_next hb4.out ?_)
 clear hK' K'
 try simp only [Act.put, l0, l1, l2]
 refine rd1 7 ⟨some 23, .call { callee := .value (.func 165), args := #[.tmp 19, .tmp 22], argTypes := #[23, 25] }, _, _, _, none⟩ (by kernel_rfl) rfl fun K' hK' => ?_
 go_simp
 go_at_call 165
 refine (word_ow r.op.amount Ow4.out (by omega)).mono ?_
 rintro E w5 ⟨Aw5, nw5, cw5, rfl, H5, hb5⟩
 have lw5 := H5.len
 have Ow5 := iq H5
 clear H5
 simp only [List.length_append, be_length, List.length_cons, List.length_nil] at lw5
 refine hK'.out _ _ hb5.out (fun _ => wpAnyH_next hb5.out ?_)
 clear hK' K'
 try simp only [Act.put, l0, l1, l2]
 refine tk 8 ⟨some 0, .assign (.tmp 23), _, _, _, none⟩ (.slice Aw5 nw5 cw5) rfl (by kernel_rfl) (fun _ _ _ => id) bl (fun W hSW => by go_simp) ?_
 try simp only [pu, l0, l1]
 refine wpAnyH_done (by kernel_rfl) ?_ _
 have HQ5 := iq ((HQ.out.next HBB.out hb4.out).next HBB.out hb5.out)
 have HOW : Hid (Ow (w.heap.size + 1) w5 Aw5 nw5 cw5 (bs ++ [byteOf r.client, r.op.kind] ++ be 8 r.time ++ be 8 r.op.amount)) := iq (Ow5.out.low (by have := HQ.out.lt; have := hb4.out.size; omega))
 clear HQ O3 Ow4 Ow5 hb4 hb5
 have HL5 := iq (req_lies HQ5.out.src)
 have k3 : w5.cell? ⟨w.heap.size, 3, none⟩ = some (.string r.op.key) := HL5.out.op.key
 have k4 : w5.cell? ⟨w.heap.size, 4, none⟩ = some (.string r.op.value) := HL5.out.op.value
 have k5 : w5.cell? ⟨w.heap.size, 5, none⟩ = some (.string r.op.old) := HL5.out.op.old
 have k6 : w5.cell? ⟨w.heap.size, 6, none⟩ = some (.string r.op.to) := HL5.out.op.to
 obtain ⟨ss, hss⟩ : ∃ ss : List ByteArray, ss = [r.op.key, r.op.value, r.op.old, r.op.to] := ⟨_, rfl⟩
 have HS : Hid (ss = [r.op.key, r.op.value, r.op.old, r.op.to] /\ ss.length = 4 /\ ∀ (j : Nat) (s : ByteArray), ss[j]? = some s -> s.size <= 128) := iq ⟨hss, by rw [hss]; rfl, by rw [hss]; intro j s hj; have := HM.out; match j, hj with | 0, hj => (simp at hj; subst hj; omega) | 1, hj => (simp at hj; subst hj; omega) | 2, hj => (simp at hj; subst hj; omega) | 3, hj => (simp at hj; subst hj; omega)⟩
 have HST : Hid (((ss.map Value.string)) = [.string r.op.key, .string r.op.value, .string r.op.old, .string r.op.to]) := iq (by rw [hss]; rfl)
 clear hss
 go_wp2_with fail
 have D6 : Hid (RqAt B w (reqC r) (w5.alloc (.cells #[.string r.op.key, .string r.op.value, .string r.op.old, .string r.op.to] 9)) /\ (w5.alloc (.cells #[.string r.op.key, .string r.op.value, .string r.op.old, .string r.op.to] 9)).rangeAt w5.heap.size 0 (ss.map Value.string) /\ w5.heap.size < (w5.alloc (.cells #[.string r.op.key, .string r.op.value, .string r.op.old, .string r.op.to] 9)).heap.size /\ Ow (w.heap.size + 1) (w5.alloc (.cells #[.string r.op.key, .string r.op.value, .string r.op.old, .string r.op.to] 9)) Aw5 nw5 cw5 (bs ++ [byteOf r.client, r.op.kind] ++ be 8 r.time ++ be 8 r.op.amount ++ textsB (ss.take 0))) := iq ⟨HQ5.out.next HBB.out (bl.alloc (Nat.le_refl _) _), by rw [HST.out]; exact range_box w5 [.string r.op.key, .string r.op.value, .string r.op.old, .string r.op.to] 9, by simp, by rw [List.take_zero, textsB, List.flatMap_nil, List.append_nil]; exact HOW.out.below (bl.alloc (Nat.le_refl _) _)⟩
 generalize w5.alloc (.cells #[.string r.op.key, .string r.op.value, .string r.op.old, .string r.op.to] 9) = w6 at D6 ⊢
 clear HQ5 HOW HL5 k3 k4 k5 k6
 generalize w5.heap.size = gs at D6 ⊢
 go_loopw [0, 38] (fun v0 v38 wr => ∃ j : Nat, j <= 4 /\ v38 = .int .i64 (j : Int) /\ ∃ A0 n0 c0, v0 = .slice A0 n0 c0 /\ n0 <= 2000000 + 200 * j /\ Hid (RqAt B w (reqC r) wr /\ wr.rangeAt gs 0 (ss.map Value.string) /\ gs < wr.heap.size /\ Ow (w.heap.size + 1) wr A0 n0 c0 (bs ++ [byteOf r.client, r.op.kind] ++ be 8 r.time ++ be 8 r.op.amount ++ textsB (ss.take j)))) (fun _ v38 _ => 4 - (intOf v38).toNat)
 case atStart => exact ⟨0, by omega, rfl, _, _, _, rfl, by omega, D6⟩
 case round =>
  clear D6
  obtain ⟨j, hj, rfl, A0, n0, c0, rfl, hn0, D⟩ := hrel
  by_cases hjj : j < 4
  ·obtain ⟨s, hs⟩ : ∃ s, ss[j]? = some s := ⟨_, List.getElem?_eq_getElem (by rw [HS.out.2.1]; exact hjj)⟩
   have HZ := iq (HS.out.2.2 j s hs)
   have HT := iq (textsB_take hs)
   have cj : wr.cell? ⟨gs, j, none⟩ = some (.string s) := by
      have := D.out.2.1 j (.string s) (by rw [List.getElem?_map, hs]; rfl)
      rwa [Nat.zero_add] at this
   clear hs
   go_wp2_with (go_at_call 166; refine (text_ow s D.out.2.2.2 (by omega) (by have := HZ.out; omega)).mono ?_; rintro E w7 ⟨A7, n7, c7, rfl, H7, hb7⟩; have O7 := iq H7; clear H7)
   go_roundw
   case measure => simp [intOf] <;> omega
   case rel => exact ⟨j + 1, by omega, by go_num, _, _, _, rfl, by
       have h1 := O7.out.len
       have h2 := D.out.2.2.2.len
       rw [List.length_append, h2, txtB_len] at h1
       have := HZ.out
       omega, iq ⟨D.out.1.next HBB.out hb7.out, rangeAt_below D.out.2.1 hb7.out D.out.2.2.1, Nat.lt_of_lt_of_le D.out.2.2.1 hb7.out.size, by rw [HT.out, <- List.append_assoc]; exact O7.out.low (by have := D.out.1.lt; omega)⟩⟩
  ·obtain rfl : j = 4 := by omega
   have HE : Hid (bs ++ [byteOf r.client, r.op.kind] ++ be 8 r.time ++ be 8 r.op.amount ++ textsB (ss.take 4) = bs ++ reqB r) := iq (by rw [List.take_of_length_le (by rw [HS.out.2.1]; exact Nat.le_refl _), HS.out.1]; simp [textsB, reqB])
   go_wp2_with fail
   go_ret
   exact ⟨_, _, _, rfl, by have := D.out.2.2.2.low (B' := w.heap.size) (by omega); rwa [HE.out] at this, iq D.out.1.bel⟩
open Go.RowKit
theorem reqB_len {r : MReq} (h : reqMay r = true) : (reqB r).length <= 400 := by
 simp only [reqMay, opMay, Bool.and_eq_true, decide_eq_true_eq] at h
 simp only [reqB, List.length_cons, List.length_append, be_length, txtB_len]
 omega
open Go.RowKit
theorem rd_byte {w : World} {u : UInt8} {z : Int} (hz : z = (u.toNat : Int)) : Rd (fun _ => True) (w.alloc (.cells #[.int .u8 z] 5)) (some ⟨w.heap.size, 0, none⟩) 1 [u] :=
 ⟨rfl, fun _ => ⟨_, 0, rfl, by simp, trivial, fun j y hy => by
  subst hz
  exact range_box w (u8s [u]) 5 j _ (by rw [u8s, List.getElem?_map, hy]; rfl)⟩⟩
theorem sl_1 {a : Addr} : Sl (some a) 1 1 := ⟨(fun h => by cases h), Nat.le_refl _, by omega⟩
theorem pairsB_take {l : List (Int × Nat)} {j : Nat} {p : Int × Nat} (h : l[j]? = some p) : pairsB (l.take (j + 1)) = pairsB (l.take j) ++ pairB p := by
 unfold pairsB
 rw [List.take_add_one, h, List.flatMap_append]
 simp
theorem u8_wrap {i : Int} (h : 0 <= i /\ i < 256) : IntKind.u8.wrap i = ((byteOf i).toNat : Int) := by
 rw [byteOf_val h]
 unfold IntKind.wrap
 simp [IntKind.bits, IntKind.signed]
 omega
theorem pairB_len (p : Int × Nat) : (pairB p).length = 9 := by simp [pairB, be_length]
open Go.RowKit
end Go.Proofs.YtknpcmadghkaaaaGreatDoor.Sh
