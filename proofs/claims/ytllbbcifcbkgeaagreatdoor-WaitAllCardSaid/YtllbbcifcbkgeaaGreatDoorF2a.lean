/- Laws and walks. -/
import Derived.Test.YtllbbcifcbkgeaaGreatDoorF1a
import Derived.Test.YtllbbcifcbkgeaaGreatDoorV2a
set_option maxHeartbeats 16000000
set_option maxRecDepth 100000
namespace Go.Proofs.YtllbbcifcbkgeaaGreatDoor.Sh
open Go.RowKit
abbrev Tk := MMsg × Nat
def tkC (t : Tk) : List Value := msgC t.1 ++ [.int .i64 (t.2 : Int)]
theorem tkC_length {t : Tk} (h : t.1.Wf) : (tkC t).length = 122 := by simp [tkC, msgC_length h]
def strm (L : List MMsg) (i : Nat) : List Tk := L.zipIdx.filter fun t => decide (t.1.origin = (i : Int) + 1)
def cnt (L : List MMsg) (i : Nat) : Nat := (strm L i).length
def kn (L : List MMsg) : List Nat := (List.range 11).map (cnt L)
theorem kn_length (L : List MMsg) : (kn L).length = 11 := by simp [kn]
theorem kn_get (L : List MMsg) {i : Nat} (hi : i < 11) : (kn L)[i]? = some (cnt L i) := by simp [kn, hi]
theorem strm_snoc (L : List MMsg) (m : MMsg) (i : Nat) : strm (L ++ [m]) i = strm L i ++ (if m.origin = (i : Int) + 1 then [(m, L.length)] else []) := by
 simp only [strm, List.zipIdx_append, List.filter_append, Nat.zero_add, List.zipIdx_singleton]
 congr 1
 by_cases h : m.origin = (i : Int) + 1 <;> simp [h]
theorem cnt_snoc (L : List MMsg) (m : MMsg) (i : Nat) : cnt (L ++ [m]) i = cnt L i + (if m.origin = (i : Int) + 1 then 1 else 0) := by
 rw [cnt, strm_snoc, List.length_append, cnt]
 split <;> rfl
theorem strm_mem {L : List MMsg} {i : Nat} {t : Tk} (h : t ∈ strm L i) : t.1 ∈ L /\ t.1.origin = (i : Int) + 1 := by
 simp only [strm, List.mem_filter, decide_eq_true_eq] at h
 exact ⟨by have := List.mem_zipIdx h.1; simp at this; rw [this.2]; exact List.getElem_mem _, h.2⟩
theorem strm_nil (i : Nat) : strm [] i = [] := rfl
def sumTo (L : List MMsg) : Nat -> Nat
 | 0 => 0
 | j + 1 => sumTo L j + cnt L j
theorem sumTo_snoc (L : List MMsg) (m : MMsg) : ∀ j, sumTo (L ++ [m]) j = sumTo L j + (if 1 <= m.origin /\ m.origin <= (j : Int) then 1 else 0)
 | 0 => by
  simp only [sumTo]
  rw [if_neg (by omega)]
 | j + 1 => by
  simp only [sumTo, sumTo_snoc L m j, cnt_snoc]
  by_cases h : m.origin = (j : Int) + 1
  ·rw [if_neg (by omega), if_pos h, if_pos (by omega)]; omega
  ·rw [if_neg h]
   by_cases h2 : 1 <= m.origin /\ m.origin <= (j : Int)
   ·rw [if_pos h2, if_pos (by omega)]; omega
   ·rw [if_neg h2, if_neg (by omega)]; omega
theorem snoc_rec {α : Type} {P : List α -> Prop} (nil : P []) (snoc : ∀ l a, P l -> P (l ++ [a])) (l : List α) : P l := by
 have h : ∀ n (l : List α), l.length = n -> P l := by
  intro n
  induction n with
  | zero => intro l h; rw [List.eq_nil_of_length_eq_zero h]; exact nil
  | succ n ih =>
   intro l h
   have hne : l ≠ [] := by intro e; rw [e] at h; cases h
   rw [<- List.dropLast_concat_getLast hne]
   exact snoc _ _ (ih _ (by simp [h]))
 exact h _ l rfl
theorem sumTo_all (L : List MMsg) (h : ∀ m ∈ L, 1 <= m.origin /\ m.origin <= 11) : sumTo L 11 = L.length := by
 induction L using snoc_rec with
 | nil => rfl
 | snoc L m ih =>
  rw [sumTo_snoc, ih fun x hx => h x (List.mem_append_left _ hx), if_pos (by have := h m (by simp); omega), List.length_append]
  rfl
theorem sumTo_le (L : List MMsg) {j : Nat} (hj : j <= 11) : sumTo L j <= sumTo L 11 := by
 have h : ∀ a k, sumTo L a <= sumTo L (a + k) := fun a k => by
  induction k with
  | zero => exact Nat.le_refl _
  | succ k ih => exact Nat.le_trans ih (by rw [<- Nat.add_assoc]; exact Nat.le_add_right _ _)
 have := h j (11 - j)
 rwa [show j + (11 - j) = 11 by omega] at this
theorem cnt_le_sum (L : List MMsg) {i : Nat} (hi : i < 11) : cnt L i <= sumTo L 11 := Nat.le_trans (show cnt L i <= sumTo L (i + 1) by simp [sumTo]) (sumTo_le L hi)
def sv (A : Nat -> Option Addr) (C : Nat -> Nat) (L : List MMsg) (i : Nat) : Value := .slice (A i) (cnt L i) (C i)
def svs (A : Nat -> Option Addr) (C : Nat -> Nat) (L : List MMsg) : List Value := (List.range 11).map (sv A C L)
def loC (n : Nat) (A : Nat -> Option Addr) (C : Nat -> Nat) (L : List MMsg) : List Value := .int .i64 (n : Int) :: svs A C L
theorem svs_length (A : Nat -> Option Addr) (C : Nat -> Nat) (L : List MMsg) : (svs A C L).length = 11 := by simp [svs]
theorem svs_get (A : Nat -> Option Addr) (C : Nat -> Nat) (L : List MMsg) {i : Nat} (hi : i < 11) : (svs A C L)[i]? = some (sv A C L i) := by simp [svs, hi]
def MMsg.onQ (m : MMsg) (g : Nat) : Prop := 0 < m.body.qs.length /\ ∃ o, m.body.qa = some ⟨g, o, none⟩
structure LoreAt (W : World) (b n : Nat) (A : Nat -> Option Addr) (C : Nat -> Nat) (L : List MMsg) : Prop where
 top : W.heap[b]? = some (.cells (loC n A C L).toArray 93 (0, 0))
 row : ∀ i, i < 11 -> W.ownsRow 0 98 122 (sv A C L i) (cnt L i) ((strm L i).flatMap tkC)
 wf : ∀ m ∈ L, m.Wf /\ (1 <= m.origin /\ m.origin <= 11) /\ Prs W m.body.qa m.body.qs
 ap : ∀ i j g, i < 11 -> j < 11 -> A i = some ⟨g, 0, none⟩ -> A j = some ⟨g, 0, none⟩ -> i = j
 nb : ∀ i g, i < 11 -> A i = some ⟨g, 0, none⟩ -> g ≠ b
 qb : ∀ m ∈ L, ∀ g, m.onQ g -> g ≠ b /\ ∀ i, i < 11 -> A i ≠ some ⟨g, 0, none⟩
 n11 : n <= 11
 few : L.length <= 1000000
def OnL (b : Nat) (A : Nat -> Option Addr) (L : List MMsg) (k : Nat) : Prop := k = b \/ (∃ i, i < 11 /\ A i = some ⟨k, 0, none⟩) \/ ∃ m ∈ L, m.onQ k
def loT (b n : Nat) (A : Nat -> Option Addr) (C : Nat -> Nat) (L : List MMsg) : Thing := ⟨fun W => LoreAt W b n A C L, OnL b A L⟩
theorem prs_kept {W W' : World} {m : MMsg} (h : Prs W m.body.qa m.body.qs) (hk : ∀ g, m.onQ g -> W'.heap[g]? = W.heap[g]?) : Prs W' m.body.qa m.body.qs := fun hn => by
 obtain ⟨g, o, e, hl, hc⟩ := h hn
 have hg := hk g ⟨hn, o, e⟩
 refine ⟨g, o, e, ?_, fun j p hp => ?_⟩
 ·have := Array.getElem?_eq_getElem hl
  rw [<- hg] at this
  exact (Array.getElem?_eq_some_iff.1 this).1
 ·have := hc j p hp
  rw [<- cell_kept hg, <- cell_kept hg] at this
  exact this
theorem prs_lt {W : World} {m : MMsg} (h : Prs W m.body.qa m.body.qs) {g : Nat} (hg : m.onQ g) : g < W.heap.size := by
 obtain ⟨hn, o, e⟩ := hg
 obtain ⟨g', o', e', hl, _⟩ := h hn
 rw [e] at e'
 injection e' with e'
 injection e' with e1 _
 rw [e1]; exact hl
theorem sv_block {A : Nat -> Option Addr} {C : Nat -> Nat} {L : List MMsg} {W : World} {i k : Nat} (h : W.ownsRow 0 98 122 (sv A C L i) (cnt L i) ((strm L i).flatMap tkC)) (hk : (sv A C L i).ownBlock = some k) : A i = some ⟨k, 0, none⟩ := by
 rcases h.2 with ⟨e, _⟩ | ⟨g, cap, cur, e, _⟩
 ·rw [e] at hk; cases hk
 ·rw [e] at hk
  rw [sv] at e
  injection e with e1
  rw [e1]
  injection hk with hk
  rw [<- hk]
theorem loT_ok (b n : Nat) (A : Nat -> Option Addr) (C : Nat -> Nat) (L : List MMsg) : (loT b n A C L).Ok := by
 refine ⟨fun W W' (h : LoreAt W b n A C L) hk => ?_, fun W (h : LoreAt W b n A C L) k hk => ?_⟩
 ·exact ⟨(hk b (.inl rfl)).trans h.top, fun i hi => ownsRow_kept (h.row i hi) fun k e => hk k (.inr (.inl ⟨i, hi, sv_block (h.row i hi) e⟩)), fun m hm => ⟨(h.wf m hm).1, (h.wf m hm).2.1, prs_kept (h.wf m hm).2.2 fun g hg => hk g (.inr (.inr ⟨m, hm, hg⟩))⟩, h.ap, h.nb, h.qb, h.n11, h.few⟩
 ·rcases hk with rfl | ⟨i, hi, e⟩ | ⟨m, hm, hg⟩
  ·exact (Array.getElem?_eq_some_iff.1 h.top).1
  ·exact ownsRow_lt (h.row i hi) k (by rw [sv, e]; rfl)
  ·exact prs_lt (h.wf m hm).2.2 hg
section
variable {W : World} {b n : Nat} {A : Nat -> Option Addr} {C : Nat -> Nat} {L : List MMsg}
theorem LoreAt.below {W' : World} (h : LoreAt W b n A C L) (hb : Below W.heap.size W W') : LoreAt W' b n A C L := (loT_ok b n A C L).below (o := loT b n A C L) h hb
theorem LoreAt.sum (h : LoreAt W b n A C L) : sumTo L 11 = L.length := sumTo_all L fun m hm => (h.wf m hm).2.1
theorem LoreAt.cnt_le (h : LoreAt W b n A C L) {i : Nat} (hi : i < 11) : cnt L i <= 1000000 := Nat.le_trans (cnt_le_sum L hi) (by rw [h.sum]; exact h.few)
theorem LoreAt.range (h : LoreAt W b n A C L) : W.rangeAt b 0 (loC n A C L) := range_of_heap h.top
theorem LoreAt.cellN (h : LoreAt W b n A C L) : W.cell? ⟨b, 0, none⟩ = some (.int .i64 (n : Int)) := h.range 0 _ rfl
theorem LoreAt.cell (h : LoreAt W b n A C L) {i : Nat} (hi : i < 11) : W.cell? ⟨b, 1 + i, none⟩ = some (.slice (A i) (cnt L i) (C i)) := by
 have := h.range (1 + i) (sv A C L i) (by rw [loC, Nat.add_comm, List.getElem?_cons_succ]; exact svs_get A C L hi)
 rwa [Nat.zero_add] at this
theorem LoreAt.all (h : LoreAt W b n A C L) : W.rangeAt b 1 (svs A C L) := by have := (range_cons h.range).2; rwa [Nat.zero_add] at this
theorem flat_get {l : List Tk} (hw : ∀ t ∈ l, t.1.Wf) {j : Nat} {t : Tk} (hj : l[j]? = some t) : ∀ k v, (tkC t)[k]? = some v -> (l.flatMap tkC)[j * 122 + k]? = some v := by
 induction l generalizing j with
 | nil => simp at hj
 | cons x l ih =>
  intro k v hv
  have hx := tkC_length (hw x (by simp))
  rw [List.flatMap_cons]
  cases j with
  | zero =>
   simp at hj; subst hj
   rw [List.getElem?_append_left (by have := (List.getElem?_eq_some_iff.1 hv).1; omega)]
   simpa using hv
  | succ j =>
   simp at hj
   rw [List.getElem?_append_right (by omega), hx]
   have := ih (fun t ht => hw t (by simp [ht])) hj k v hv
   rwa [show (j + 1) * 122 + k - 122 = j * 122 + k by omega]
theorem LoreAt.tk (h : LoreAt W b n A C L) {i j : Nat} (hi : i < 11) {t : Tk} (ht : (strm L i)[j]? = some t) : ∃ g, A i = some ⟨g, 0, none⟩ /\ W.rangeAt g (j * 122) (tkC t) /\ cnt L i <= C i /\ C i <= 9223372036854775807 := by
 have hj := (List.getElem?_eq_some_iff.1 ht).1
 obtain ⟨g, cap, e, _, hr, h1, h2⟩ := ownsRow_some (h.row i hi) (by rw [cnt]; omega)
 rw [sv] at e
 injection e with e1 _ e3
 subst e3
 refine ⟨g, e1, fun k v hv => ?_, h1, h2⟩
 have := hr (j * 122 + k) v (flat_get (fun t ht => (h.wf _ (strm_mem ht).1).1) ht k v hv)
 rwa [Nat.zero_add] at this
theorem LoreAt.sl (h : LoreAt W b n A C L) {i : Nat} (hi : i < 11) : (A i = none -> cnt L i = 0 /\ C i = 0) /\ cnt L i <= C i /\ C i <= 9223372036854775807 := by
 rcases (h.row i hi).2 with ⟨e, e0⟩ | ⟨g, cap, cur, e, _, _, h3, h4, _⟩
 ·rw [sv] at e
  injection e with e1 e2 e3
  exact ⟨fun _ => ⟨e2, e3⟩, by omega, by omega⟩
 ·rw [sv] at e
  injection e with e1 e2 e3
  exact ⟨fun e => (by rw [e1] at e; cases e), by omega, by rw [e3]; exact h4⟩
end
open Go.RowKit
theorem known_any {W : World} {b n : Nat} {A : Nat -> Option Addr} {C : Nat -> Nat} {L : List MMsg} (h : LoreAt W b n A C L) {i : Nat} (hi : i < 11) (o : Int) (ho : o = (i : Int) + 1) :
  Calls Tryz.prog 48 #[.pointer (some ⟨b, 0, none⟩), .int .i64 o] W fun E W' => E = .returned (.int .u64 (cnt L i : Int)) /\ W = W' := by
 have hw : IntKind.i64.wrap (o - 1) = (i : Int) := by rw [IntKind.wrap_i64]; omega
 have hle := h.cnt_le hi
 have hw2 : IntKind.u64.wrap (cnt L i : Int) = (cnt L i : Int) := by rw [IntKind.wrap_u64]; omega
 have hc := h.cell hi
 have h0 : (0 : Int) <= (i : Int) := by omega
 have h1 : (i : Int) < 11 := by omega
 have h2 : (i : Int).toNat = i := by omega
 clear ho hle h
 go_enter Tryz.func48, Tryz.ntmps48
 go_wp2
 go_ret
 exact ⟨rfl, rfl⟩
def upTo (l : List Nat) (j : Nat) : List Value := u64s (l.take j) ++ List.replicate (11 - j) (.int .u64 0)
theorem upTo_zero (l : List Nat) : upTo l 0 = List.replicate 11 (.int .u64 0) := by simp [upTo, u64s]
theorem upTo_all {l : List Nat} (hl : l.length = 11) : upTo l 11 = u64s l := by simp [upTo, List.take_of_length_le (Nat.le_of_eq hl)]
theorem upTo_get {l : List Nat} (hl : l.length = 11) {j : Nat} (hj : j < 11) : (upTo l j)[j]? = some (.int .u64 0) := by
 have e : (u64s (l.take j)).length = j := by simp [u64s]; omega
 rw [upTo, List.getElem?_append_right (by omega), e, Nat.sub_self, List.getElem?_replicate, if_pos (by omega)]
theorem upTo_set {l : List Nat} (hl : l.length = 11) {j x : Nat} (hj : j < 11) (hx : l[j]? = some x) : (upTo l j).set j (.int .u64 (x : Int)) = upTo l (j + 1) := by
 have e : (u64s (l.take j)).length = j := by simp [u64s]; omega
 rw [upTo, List.set_append_right _ _ (by omega), e, Nat.sub_self, show 11 - j = (11 - (j + 1)) + 1 by omega, List.replicate_succ, List.set_cons_zero, upTo, List.take_add_one, hx]
 simp [u64s]
def z11 : List Nat := List.replicate 11 0
theorem z11_cells : u64s z11 = List.replicate 11 (.int .u64 0) := by simp [z11, u64s]
theorem zero_vec (w : World) : (zeroValue 27).run Tryz.prog w = .ok (.agg (u64s z11).toArray) w := by kernel_rfl
theorem info_vec {l : List Nat} (h : l.length = 11) : (Tryz.prog.info? 27).map (·.size) = some (u64s l).length := by rw [u64s_length, h]; exact Tryz.is27
theorem knowns_any {W : World} {b n : Nat} {A : Nat -> Option Addr} {C : Nat -> Nat} {L : List MMsg} (h : LoreAt W b n A C L) (hk : KIs W) (h0 : 0 < W.heap.size) :
  Calls Tryz.prog 20 #[.pointer (some ⟨b, 0, none⟩)] W fun E W' => E = .returned (.agg (u64s (kn L)).toArray) /\ Below W.heap.size W W' := by
 have hz := zero_vec
 have HZ : Hid (u64s z11 = upTo (kn L) 0) := iq (by rw [upTo_zero, z11_cells])
 have HK := iq (fun (W' : World) (hb : Below W.heap.size W W') (i : Nat) (hi : i < 11) => known_any (h.below hb) hi ((i : Int) + 1) rfl)
 have HG := iq (fun (i : Nat) (hi : i < 11) => kn_get L hi)
 have HL := iq (kn_length L)
 have HI := iq (info_vec (kn_length L))
 have hzl : (u64s z11).length = 11 := rfl
 have hzn : ¬ (u64s z11 = []) := by decide
 have HO := iq (one_u64s (kn L))
 obtain ⟨l, hl⟩ : ∃ l, l = kn L := ⟨_, rfl⟩
 rw [<- hl] at HZ HG HL HI HO
 rw [<- hl]
 clear hl
 have H2 := iq (((Fr.start hk h0).box (u64s z11).toArray 27).box' (k := W.heap.size + 1) (by simp) (u64s z11).toArray 27)
 obtain ⟨Z, hZ⟩ : ∃ Z, Z = u64s z11 := ⟨_, rfl⟩
 rw [<- hZ] at hz hzl hzn HZ H2
 have H2 : Hid (Fr W ((W.alloc (.cells Z.toArray 27)).alloc (.cells Z.toArray 27)) [blkT (W.heap.size + 1) (upTo l 0).toArray 27, blkT W.heap.size Z.toArray 27]) := iq (by rw [<- HZ.out]; exact H2.out)
 have HZL := iq hzl
 clear hZ HZ hk h0 h
 go_enter Tryz.func20, Tryz.ntmps20
 go_wp2_with fail
 go_loopw [8] (fun v8 wr => ∃ j : Nat, j <= 11 /\ v8 = .int .i64 (j : Int) /\ Hid (Fr W wr [blkT (W.heap.size + 1) (upTo l j).toArray 27, blkT W.heap.size Z.toArray 27])) (fun v8 _ => 11 - (intOf v8).toNat)
 case atStart => exact ⟨0, by omega, rfl, H2⟩
 case round =>
  clear H2
  obtain ⟨j, hj, rfl, D⟩ := hrel
  by_cases hjj : j < 11
  ·have hdec : decide ((j : Int) < (11 : Int)) = true := decide_eq_true (by omega)
   have hj0 : (0 : Int) <= (j : Int) := by omega
   have hjn : (j : Int) < (11 : Int) := by omega
   have htn : ((j : Int)).toNat = j := by omega
   have hw1 : IntKind.i64.wrap ((j : Int) + 1) = (j : Int) + 1 := by rw [IntKind.wrap_i64]; omega
   obtain ⟨x, hx⟩ : ∃ x, x = cnt L j := ⟨_, rfl⟩
   have hg := HG.out j hjj
   have hk := HK.out wr D.out.bel j hjj
   rw [<- hx] at hk hg
   have HX := iq hg
   have HK2 := iq hk
   clear hx hk hg
   have hc : wr.cell? ⟨W.heap.size + 1, j, none⟩ = some (.int .u64 0) := block_cell D.out.hd j _ (upTo_get HL.out hjj)
   have hf : wr.frozen? ⟨W.heap.size + 1, j, none⟩ = false := free_block D.out.hd j
   go_wp2_with (go_at_call 48; refine HK2.out.mono ?_; rintro E w2 ⟨rfl, rfl⟩)
   have D' : Hid (Fr W (wr.setCell ⟨W.heap.size + 1, j, none⟩ (.int .u64 (x : Int))) [blkT (W.heap.size + 1) (upTo l (j + 1)).toArray 27, blkT W.heap.size Z.toArray 27]) := iq (by have := D.out.set j (.int .u64 (x : Int)); rw [upTo_set HL.out hjj HX.out] at this; exact this)
   clear D
   go_roundw
   case measure => simp [intOf] <;> omega
   case rel => exact ⟨j + 1, by omega, by go_num, D'⟩
  ·obtain rfl : j = 11 := by omega
   have HT : Hid (wr.there W.heap.size 0 (u64s l).length) := iq (there_block D.out.hd2 0 _ (by rw [u64s_length, HL.out, HZL.out]; exact Nat.le_refl _))
   go_wp2_with (first | ((with_reducible refine wpList_load_midG ?_ 27 (.tmp 3) ?_ (W.heap.size + 1) 0 ?_ (u64s l) _ ?_ Tryz.underlying27 ?_ ?_ ?_); rotate_left; rfl; rfl; exact (by have := range_of D.out.hd; rw [upTo_all HL.out] at this; exact this); rfl; exact HI.out; rotate_left; rfl) | (refine wpList_store_cells rfl 27 (.tmp 2) (.tmp 18) rfl W.heap.size 0 (u64s l) rfl rfl HT.out HI.out HO.out ?_))
   exact bodyPost_ret (ret_range (cs := u64s l) rfl rfl (World.rangeAt_setCells_same _ _ _ (u64s l) HT.out) Tryz.underlying27 rfl HI.out) rfl ⟨rfl, below_setCells (Nat.le_refl _) _ _ _ D.out.bel⟩
theorem idx_svs {S : List Value} {j : Nat} {v : Value} (hj : j < 11) (hv : S[j]? = some v) (w : World) : (Instr.index 91 (.agg S.toArray) (.int .i64 (j : Int))).run Tryz.prog w = .ok v w := by
 have hs : (Tryz.prog.info? 90).map (·.size) = some 1 := by kernel_rfl
 have h0 : (0 : Int) <= (j : Int) /\ (j : Int) < 11 := by omega
 cases hq : Tryz.prog.info? 90 with
 | none => simp [hq] at hs
 | some i =>
  have h1 : i.size = 1 := by simpa [hq] using hs
  simp [Instr.index, run_underlying Tryz.underlying91, asIntOf, h0, sizeOf, typeInfo, hq, h1, part, hv]
  intro h
  omega
theorem len_any {W : World} {b n : Nat} {A : Nat -> Option Addr} {C : Nat -> Nat} {L : List MMsg} (h : LoreAt W b n A C L) :
  Calls Tryz.prog 21 #[.pointer (some ⟨b, 0, none⟩)] W fun E W' => E = .returned (.int .i64 (L.length : Int)) /\ W = W' := by
 have HS := iq h.sum
 have HF := iq (fun (i : Nat) (hi : i < 11) => svs_get A C L hi)
 have HR := iq h.all
 have HI : Hid ((Tryz.prog.info? 91).map (·.size) = some (svs A C L).length) := iq (by rw [svs_length]; kernel_rfl)
 have HLe := iq h.few
 have HSL := iq (fun (j : Nat) (hj : j <= 11) => Nat.le_trans (sumTo_le L hj) (Nat.le_trans (Nat.le_of_eq h.sum) h.few))
 obtain ⟨S, hS⟩ : ∃ S, S = svs A C L := ⟨_, rfl⟩
 have hSL := svs_length A C L
 rw [<- hS] at HF HR HI hSL
 clear hS h
 have HSE := iq hSL
 clear hSL
 go_enter Tryz.func21, Tryz.ntmps21
 go_wp2_with ((with_reducible refine wpList_load_midG ?_ 91 (.tmp 10) ?_ b 1 ?_ S _ ?_ Tryz.underlying91 ?_ ?_ ?_); rotate_left; rfl; rfl; exact HR.out; rfl; exact HI.out; rotate_left; rfl)
 go_loop [3, 12] (fun v3 v12 => ∃ j : Nat, j <= 11 /\ v12 = .int .i64 (j : Int) /\ v3 = .int .i64 (sumTo L j : Int)) (fun _ v12 => 11 - (intOf v12).toNat)
 case atStart => exact ⟨0, by omega, rfl, rfl⟩
 case round =>
  obtain ⟨j, hj, rfl, rfl⟩ := hrel
  by_cases hjj : j < 11
  ·have hdec : decide ((j : Int) < (11 : Int)) = true := decide_eq_true (by omega)
   have hj0 : (0 : Int) <= (j : Int) := by omega
   have hjn : (j : Int) < (11 : Int) := by omega
   have htn : ((j : Int)).toNat = j := by omega
   have hw1 : IntKind.i64.wrap ((j : Int) + 1) = (j : Int) + 1 := by rw [IntKind.wrap_i64]; omega
   have hg := HF.out j hjj
   have hx1 := fun w => idx_svs hjj hg w
   obtain ⟨x, hx⟩ : ∃ x, x = cnt L j := ⟨_, rfl⟩
   have hs : sumTo L (j + 1) = sumTo L j + x := by rw [hx]; rfl
   have hle := HSL.out (j + 1) (by omega)
   have hw : IntKind.i64.wrap ((sumTo L j : Int) + (x : Int)) = ((sumTo L (j + 1) : Nat) : Int) := by rw [IntKind.wrap_i64]; omega
   rw [sv, <- hx] at hx1
   clear hg
   have HGs := iq hs
   clear hs hle hx
   go_wp2_with fail
   go_round
   case measure => simp [intOf] <;> omega
   case rel => exact ⟨j + 1, by omega, by go_num, rfl⟩
  ·obtain rfl : j = 11 := by omega
   go_wp2_with fail
   go_ret
   exact ⟨by rw [HS.out]; rfl, rfl⟩
end Go.Proofs.YtllbbcifcbkgeaaGreatDoor.Sh
