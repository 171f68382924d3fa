/- Laws and walks. -/
import Derived.Test.YtllbbcifcbkgeaaGreatDoorF12w
import Derived.Test.YtllbbcifcbkgeaaGreatDoorUdw
set_option maxHeartbeats 16000000
set_option maxRecDepth 100000
namespace Go.Proofs.YtllbbcifcbkgeaaGreatDoor.Sh
open Go.RowKit
def MMsg.bare (m : MMsg) : MMsg := m.at none 0
open Go.RowKit
structure Hds (W : World) (S : List Value) (A : Nat -> Option Addr) (N C P : Nat -> Nat) : Prop where
 len : S.length = 11
 get : ∀ i, i < 11 -> S[i]? = some (.slice (A i) (N i) (C i))
 head : ∀ i, i < 11 -> 0 < N i -> ∃ g o, A i = some ⟨g, o, none⟩ /\ g < W.heap.size /\ W.cell? ⟨g, o + 121, none⟩ = some (.int .i64 (P i : Int))
theorem Hds.below {W W' : World} {S : List Value} {A : Nat -> Option Addr} {N C P : Nat -> Nat} (h : Hds W S A N C P) (hb : Below W.heap.size W W') : Hds W' S A N C P :=
 ⟨h.len, h.get, fun i hi hn => let ⟨g, o, e, hl, hc⟩ := h.head i hi hn; ⟨g, o, e, Nat.lt_of_lt_of_le hl hb.size, (hb.cell (p := ⟨g, _, none⟩) hl).trans hc⟩⟩
open Go.RowKit
def rem (L : List MMsg) (p : Nat -> Nat) : List Tk := L.zipIdx.filter fun t => decide (p t.1.oi < t.1.number)
def rsv (A : Nat -> Option Addr) (N C : Nat -> Nat) : List Value := (List.range 11).map fun i => Value.slice (A i) (N i) (C i)
theorem rsv_length (A : Nat -> Option Addr) (N C : Nat -> Nat) : (rsv A N C).length = 11 := by simp [rsv]
theorem rsv_get (A : Nat -> Option Addr) (N C : Nat -> Nat) {i : Nat} (hi : i < 11) : (rsv A N C)[i]? = some (.slice (A i) (N i) (C i)) := by simp [rsv, hi]
structure RsOk (L : List MMsg) (A : Nat -> Option Addr) (p : Nat -> Nat) (RA : Nat -> Option Addr) (RN RC : Nat -> Nat) : Prop where
 ok : ∀ i, i < 11 -> p i <= cnt L i /\ RN i = cnt L i - p i /\ RN i <= RC i /\ RC i <= 9223372036854775807 /\ (RA i = none -> RC i = 0) /\ (0 < RN i -> ∃ g, A i = some ⟨g, 0, none⟩ /\ RA i = some ⟨g, p i * 122, none⟩)
theorem RsOk.start {W : World} {b n : Nat} {A : Nat -> Option Addr} {C : Nat -> Nat} {L : List MMsg} (h : LoreAt W b n A C L) : RsOk L A (fun _ => 0) A (cnt L) C :=
 ⟨fun i hi => by
  have hs := h.sl hi
  refine ⟨Nat.zero_le _, rfl, hs.2.1, hs.2.2, fun e => (hs.1 e).2, fun h0 => ?_⟩
  obtain ⟨g, e, _⟩ := h.tk hi (t := (strm L i)[0]'h0) (List.getElem?_eq_getElem h0)
  exact ⟨g, e, by rw [e, Nat.zero_mul]⟩⟩
def cutA (a : Option Addr) (c lo : Nat) : Option Addr := if c = lo then a else a.map fun x => x.add (lo * 122)
theorem RsOk.cut {L : List MMsg} {A : Nat -> Option Addr} {p : Nat -> Nat} {RA : Nat -> Option Addr} {RN RC : Nat -> Nat} (h : RsOk L A p RA RN RC) {i lo : Nat} (hi : i < 11) (hlo : lo <= RN i) :
  RsOk L A (upd p i (p i + lo)) (upd RA i (cutA (RA i) (RC i) lo)) (upd RN i (RN i - lo)) (upd RC i (RC i - lo)) := by
 refine ⟨fun j hj => ?_⟩
 by_cases hji : j = i
 ·subst hji
  rw [upd_same, upd_same, upd_same, upd_same]
  obtain ⟨h1, h2, h3, h4, h5, h6⟩ := h.ok j hj
  refine ⟨by omega, by omega, by omega, by omega, fun e => ?_, fun h0 => ?_⟩
  ·unfold cutA at e
   split at e
   ·omega
   ·cases hr : RA j with
    | none => have := h5 hr; omega
    | some x => rw [hr] at e; cases e
  ·obtain ⟨g, e1, e2⟩ := h6 (by omega)
   refine ⟨g, e1, ?_⟩
   rw [cutA, if_neg (by omega), e2, Option.map_some, add_at, <- Nat.add_mul]
 ·rw [upd_ne _ _ hji, upd_ne _ _ hji, upd_ne _ _ hji, upd_ne _ _ hji]
  exact h.ok j hj
def plc (L : List MMsg) (p : Nat -> Nat) (i : Nat) : Nat := match (strm L i)[p i]? with | some t => t.2 | none => 0
theorem RsOk.heads {W : World} {b n : Nat} {A : Nat -> Option Addr} {C : Nat -> Nat} {L : List MMsg} {p : Nat -> Nat} {RA : Nat -> Option Addr} {RN RC : Nat -> Nat} (h : LoreAt W b n A C L) (hr : RsOk L A p RA RN RC) : Hds W (rsv RA RN RC) RA RN RC (plc L p) := by
 refine ⟨rsv_length _ _ _, fun i hi => rsv_get _ _ _ hi, fun i hi h0 => ?_⟩
 obtain ⟨h1, h2, _, _, _, h6⟩ := hr.ok i hi
 obtain ⟨g, e1, e2⟩ := h6 h0
 have hlt : p i < (strm L i).length := by rw [cnt] at h2; omega
 have ht := List.getElem?_eq_getElem hlt
 obtain ⟨g', e', hrg, _⟩ := h.tk hi ht
 rw [e1] at e'
 injection e' with e'
 injection e' with e' _
 subst e'
 have hw := (h.wf _ (strm_mem (List.mem_of_getElem? ht)).1).1
 refine ⟨g, p i * 122, e2, ownsRow_lt (h.row i hi) g (by rw [sv, e1]; rfl), ?_⟩
 have := hrg 121 (.int .i64 (((strm L i)[p i]'hlt).2 : Int)) (by rw [tkC, List.getElem?_append_right (by rw [msgC_length hw]; exact Nat.le_refl _), msgC_length hw]; rfl)
 rw [this, plc, ht]
open Go.RowKit
def p0 (L : List MMsg) (v : List Nat) (i : Nat) : Nat := min (v.getD i 0) (cnt L i)
theorem Fr.rot3 {v W : World} {a b c : Thing} {os : List Thing} (H : Fr v W (a :: b :: c :: os)) : Fr v W (b :: c :: a :: os) := H.perm ((List.Perm.swap ..).trans ((List.Perm.swap ..).cons _))
structure InvS (L : List MMsg) (v : List Nat) (most : Int) (p : Nat -> Nat) (out : List MMsg) : Prop where
 left : rem L p = (rem L (p0 L v)).drop out.length
 told : out.map MMsg.bare = (((rem L (p0 L v)).map Prod.fst).take out.length).map MMsg.bare
 le : out.length <= (rem L (p0 L v)).length
 most : out.length <= most.toNat
open Go.RowKit
theorem build_zeroMsg (w : World) : (Instr.build 52 #[]).run Tryz.prog w = .ok (.agg (msgC zeroMsg).toArray) w := by kernel_rfl
open Go.RowKit
def bW : MBody := { zeroBody with kind := 3, view := 1 }
def v1 : List Nat := 1 :: List.replicate 10 0
def mW1 : MMsg := { zeroMsg with origin := 1, number := 1, body := bW }
def oW1 : MMsg := { mW1 with tag := numTag 1 1 (msgB mW1) }
theorem bW_wf : bW.Wf := ⟨rfl, rfl⟩
theorem mW1_wf : mW1.Wf := ⟨rfl, bW_wf, rfl⟩
theorem oW1_wf : oW1.Wf := ⟨rfl, bW_wf, numTag_length _ _ _⟩
theorem bW_may : bW.may := by
 refine ⟨by kernel_rfl, by decide, ?_⟩
 have e : bodyOwn bW = { zeroBody with kind := 3, view := 1 } := by simp [bodyOwn, bW, zeroBody]
 rw [e]
 exact ⟨rfl, rfl, rfl, rfl, rfl⟩
theorem mW1_may : mW1.may := ⟨by decide, ⟨by decide, rfl, fun x hx => by have : x = 0 := List.eq_of_mem_replicate hx; omega⟩, bW_may⟩
theorem oW1_may : oW1.may := mW1_may
theorem oW1_right : oW1.right := ⟨oW1_may, rfl⟩
theorem tag_w1 : tagM mW1 = oW1 := if_pos mW1_may
theorem prs_w (m : MMsg) (h : m.body.qs = []) (W : World) : Prs W m.body.qa m.body.qs := fun hn => by rw [h] at hn; cases hn
def MMsg.turned (m : MMsg) (i : Nat) (x : UInt8) : MMsg := { m with tag := m.tag.set i x }
theorem chk_w1 : chk 3 [] oW1 = 0 := by
 rw [chk_next oW1_may (by rfl) oW1_right (by rfl) (by rfl) false (by rfl)]
 rfl
open Go.RowKit
open Go.RowKit
def Ms (W : World) (A : Option Addr) (l : List MMsg) : Prop := (∀ m ∈ l, m.Wf) /\ (0 < l.length -> ∃ g o, A = some ⟨g, o, none⟩ /\ g < W.heap.size /\ ∀ (j : Nat) (m : MMsg), l[j]? = some m -> W.rangeAt g (o + j * 121) (msgC m))
theorem Ms.below {W W' : World} {A : Option Addr} {l : List MMsg} (h : Ms W A l) (hb : Below W.heap.size W W') : Ms W' A l :=
 ⟨h.1, fun hn => let ⟨g, o, e, hl, hc⟩ := h.2 hn; ⟨g, o, e, Nat.lt_of_lt_of_le hl hb.size, fun j m hm => rangeAt_below' (hc j m hm) hl W' hb⟩⟩
open Go.RowKit
end Go.Proofs.YtllbbcifcbkgeaaGreatDoor.Sh
