/-
  What is proved: bytes that a function is handed and puts others behind (Ow); what octet's Word and Text do to them; a body's bytes, kind by kind. Conditions as stated.
-/
import Derived.Test.YtghjogneogkpoaaGreatDoorMk
import Derived.Test.YtghjogneogkpoaaGreatDoorKt
namespace Go.Proofs.YtghjogneogkpoaaGreatDoor.Sh
open Go.RowKit
set_option maxRecDepth 100000


/-- A row of bytes of the call's own, in no block below B. -/
def Ow (B : Nat) (w : World) (A : Option Addr) (n c : Nat) (bs : List UInt8) : Prop := w.ownsRow B 5 1 (.slice A n c) n (u8s bs) ∧ Sl A n c
theorem own_low {w : World} {B B' n : Nat} {v : Value} {xs : List Value} (h : w.ownsRow B 5 1 v n xs) (hB : B' ≤ B) : w.ownsRow B' 5 1 v n xs := by
  rcases h.2 with ⟨h1, h2⟩ | ⟨g, cap, cur, h1, h2, h3⟩
  · exact ⟨h.1, .inl ⟨h1, h2⟩⟩
  · exact ⟨h.1, .inr ⟨g, cap, cur, h1, Nat.le_trans hB h2, h3⟩⟩
theorem Ow.low {B B' n c : Nat} {w : World} {A : Option Addr} {bs : List UInt8} (h : Ow B w A n c bs) (hB : B' ≤ B) : Ow B' w A n c bs := ⟨own_low h.1 hB, h.2⟩
theorem Ow.rd {B n c : Nat} {w : World} {A : Option Addr} {bs : List UInt8} (h : Ow B w A n c bs) : Rd (B ≤ ·) w A n bs := Rd.of_own h.1
theorem Ow.len {B n c : Nat} {w : World} {A : Option Addr} {bs : List UInt8} (h : Ow B w A n c bs) : bs.length = n := h.rd.1
theorem Ow.below {B n c : Nat} {w w' : World} {A : Option Addr} {bs : List UInt8} (h : Ow B w A n c bs) (hb : Below w.heap.size w w') : Ow B w' A n c bs :=
  ⟨h.1.kept (gb_below hb none) (by cases (Value.slice A n c).ownBlock <;> simp), h.2⟩
theorem Ow.nil (B : Nat) (w : World) : Ow B w none 0 0 [] := ⟨World.ownsRow_nil _ _ _ _, fun _ => ⟨rfl, rfl⟩, Nat.le_refl _, by omega⟩
theorem word_ow {B n c : Nat} {w : World} {A : Option Addr} {bs : List UInt8} (num : Nat) (h : Ow B w A n c bs) (hn : n ≤ 100000000) :
    Calls Tryz.prog 40 #[.slice A n c, .int .u64 (num : Int)] w fun E w' => ∃ A' n' c', E = .returned (.slice A' n' c') ∧ Ow w.heap.size w' A' n' c' (bs ++ be 8 num) ∧ Hid (Below w.heap.size w w') :=
  (word_any A n c bs num w h.rd (by omega)).mono fun E w' ⟨g, c', he, ho, hb⟩ => ⟨_, _, c', he, ⟨ho, own_some_shape ho⟩, hb⟩
def txtB (s : ByteArray) : List UInt8 := be 2 s.size ++ s.data.toList
theorem text_ow {B n c : Nat} {w : World} {A : Option Addr} {bs : List UInt8} (s : ByteArray) (h : Ow B w A n c bs) (hn : n ≤ 100000000) (hs : s.size ≤ 65535) :
    Calls Tryz.prog 113 #[.slice A n c, .string s] w fun E w' => ∃ A' n' c', E = .returned (.tuple #[.slice A' n' c', .int .i64 0]) ∧ Ow w.heap.size w' A' n' c' (bs ++ txtB s) ∧ Hid (Below w.heap.size w w') := by
  have hr : Oct.Rd w A n bs := ⟨h.rd.1, fun hn => let ⟨b, o, e, hb, _, hc⟩ := h.rd.2 hn; ⟨b, o, e, hb, hc⟩⟩
  refine (Oct.text_ok A n c bs s w hr (by omega) hs).mono fun E w' ⟨A', c', he, ho, hsl, hb⟩ => ⟨A', _, c', he, ⟨?_, hsl⟩, hb⟩
  rw [List.append_assoc] at ho
  exact ho

def byteOf (i : Int) : UInt8 := UInt8.ofNat i.toNat
theorem byteOf_val {i : Int} (h : 0 ≤ i ∧ i < 256) : ((byteOf i).toNat : Int) = i := by
  unfold byteOf
  simp
  omega
def reqB (r : MReq) : List UInt8 := byteOf r.client :: r.op.kind :: (be 8 r.time ++ (be 8 r.op.amount ++ (txtB r.op.key ++ (txtB r.op.value ++ (txtB r.op.old ++ txtB r.op.to)))))
def pairB (p : Int × Nat) : List UInt8 := byteOf p.1 :: be 8 p.2
def pairsB (qs : List (Int × Nat)) : List UInt8 := qs.flatMap pairB
def bodyB (b : MBody) : List UInt8 :=
  if b.kind = 1 then be 8 b.view ++ (reqB b.req ++ b.req.tag)
  else if b.kind = 2 then be 8 b.view ++ be 8 b.k
  else if b.kind = 4 then be 8 b.view ++ (byteOf (b.qs.length : Int) :: pairsB b.qs)
  else if b.kind = 6 then be 8 b.k ++ b.dig
  else be 8 b.view
def depsB (l : List Nat) : List UInt8 := l.flatMap (be 8)
/-- What is tagged of a message. -/
def msgB (m : MMsg) : List UInt8 := byteOf m.origin :: (depsB m.deps ++ (m.body.kind :: bodyB m.body))

/-- What a writer of bodies does. -/
def Puts (f : Nat) (b : MBody) (out : List UInt8) : Prop :=
  ∀ (B n c : Nat) (w : World) (A : Option Addr) (bs : List UInt8), Ow B w A n c bs → n ≤ 1000000 →
    Calls Tryz.prog f #[.slice A n c, .agg (bodyC b).toArray] w fun E w' => ∃ A' n' c', E = .returned (.slice A' n' c') ∧ Ow w.heap.size w' A' n' c' (bs ++ out) ∧ Hid (Below w.heap.size w w')
theorem putView_ms (b : MBody) (hb : b.Wf) : Puts 94 b (be 8 b.view) := by
  intro B n c w A bs h hn
  have L := body_lies (range_box w (bodyC b) 32) hb
  have c1 : (w.alloc (.cells (bodyC b).toArray 32)).cell? ⟨w.heap.size, 1, none⟩ = some (.int .u64 (b.view : Int)) := L.view
  have HB0 : Hid (Below w.heap.size w (w.alloc (.cells (bodyC b).toArray 32))) := Lib.hid ((Below.refl _ _).alloc (Nat.le_refl _) _)
  have HO : Hid (Ow B (w.alloc (.cells (bodyC b).toArray 32)) A n c bs) := Lib.hid (h.below HB0.out)
  clear L hb h
  go_enter Tryz.func94, Tryz.ntmps94
  go_wp2_with (go_at_call 40; refine (word_ow b.view HO.out (by omega)).mono ?_; rintro E w1 ⟨A1, n1, c1, rfl, H1, hb1⟩; have HH1 := Lib.hid H1; clear H1)
  go_ret
  exact ⟨A1, n1, c1, rfl, HH1.out.low (by simp), Lib.hid (HB0.out.trans (hb1.out.mono (by simp)))⟩
end Go.Proofs.YtghjogneogkpoaaGreatDoor.Sh
