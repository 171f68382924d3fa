/- Laws and walks. -/
import Derived.Test.YtllbbcifcbkgeaaGreatDoorF10a
import Derived.Test.YtllbbcifcbkgeaaGreatDoorF9a
set_option maxHeartbeats 16000000
set_option maxRecDepth 100000
namespace Go.Proofs.YtllbbcifcbkgeaaGreatDoor.Sh
open Go.RowKit
theorem add_end {v w y3 y4 : World} {os : List Thing} {b n : Nat} {A : Nat -> Option Addr} {C : Nat -> Nat} {L : List MMsg} (H : Fr v w (loT b n A C L :: os)) (hb3 : Below w.heap.size w y3) {m : MMsg} {i : Nat} (hi : i < 11) (ho : m.origin = (i : Int) + 1) (hm : m.Wf)
  (hq : Prs y3 m.body.qa m.body.qs) (hfr : ∀ g, m.onQ g -> w.heap.size <= g) {A2 : Option Addr} {c2 : Nat} (hrow : y4.ownsRow 0 98 122 (.slice A2 (cnt L i + 1) c2) (cnt L i + 1) ((strm L i).flatMap tkC ++ tkC (m, L.length)))
  (hg : y3.grownBy y4 (sv A C L i).ownBlock) (hat : (Value.slice A2 (cnt L i + 1) c2).ownBlock = (sv A C L i).ownBlock \/ (Value.slice A2 (cnt L i + 1) c2).ownBlock = some y3.heap.size) (hl : L.length < 1000000) :
  Fr v (y4.setCell ⟨b, 1 + i, none⟩ (.slice A2 (cnt L i + 1) c2)) (loT b n (upd A i A2) (upd C i c2) (L ++ [m]) :: os) := by
 have h : LoreAt w b n A C L := H.hd
 have hlt : ∀ k, OnL b A L k -> k < w.heap.size := fun k hk => (loT_ok b n A C L).lt w h k hk
 have hb : b < w.heap.size := hlt b (.inl rfl)
 have hrb : ∀ k, (sv A C L i).ownBlock = some k -> OnL b A L k /\ k ≠ b /\ A i = some ⟨k, 0, none⟩ := fun k hk => by
  have e := sv_block (h.row i hi) hk
  exact ⟨.inr (.inl ⟨i, hi, e⟩), h.nb i k hi e, e⟩
 have hs3 := hb3.size
 have hs4 := hg.size
 have hset : ∀ k, k < y4.heap.size -> k ≠ b -> (y4.setCell ⟨b, 1 + i, none⟩ (.slice A2 (cnt L i + 1) c2)).heap[k]? = y4.heap[k]? := fun k hk hne => (gb_set y4 b (1 + i) _).block k hk fun e => hne (by injection e)
 have hA2 : ∀ g, A2 = some ⟨g, 0, none⟩ -> A i = some ⟨g, 0, none⟩ \/ g = y3.heap.size := fun g e => by
  subst e
  rcases hat with e | e
  ·exact .inl (hrb g e.symm).2.2
  ·exact .inr (by injection e)
 have hqlt : ∀ g, m.onQ g -> g < y3.heap.size := fun g hg' => prs_lt hq hg'
 have hat2 : ∀ g, A2 = some ⟨g, 0, none⟩ -> A i = some ⟨g, 0, none⟩ \/ w.heap.size <= g /\ ¬ m.onQ g := fun g e => (hA2 g e).imp id fun e => ⟨by omega, fun x => by have := hqlt g x; omega⟩
 have hkeep : ∀ k, k < w.heap.size -> k ≠ b -> (sv A C L i).ownBlock ≠ some k -> (y4.setCell ⟨b, 1 + i, none⟩ (.slice A2 (cnt L i + 1) c2)).heap[k]? = w.heap[k]? := fun k hk h1 h2 =>
  (hset k (by omega) h1).trans ((hg.block k (by omega) (Ne.symm h2)).trans (hb3.block k hk))
 refine H.turn (o' := loT b n (upd A i A2) (upd C i c2) (L ++ [m])) ⟨((Turns.of_below hb3).grown hg fun g e => .inl (hrb g e).1).setCell (.inl (.inl rfl)) _ _, OnL_snoc hi hfr fun g e => (hat2 g e).imp id And.left⟩ ?_ (loT_ok _ _ _ _ _)
 refine h.snoc hi ho hm ?_ hfr A2 c2 ?_ ?_ (fun k hk h1 h2 => hkeep k (hlt k hk) h1 fun e => h2 (hrb k e).2.2) hat2 hl
 ·refine prs_kept hq fun g hg' => ?_
  have h1 := hfr g hg'
  have h2 := hqlt g hg'
  exact (hset g (by omega) (by omega)).trans (hg.block g h2 fun e => by have := hlt g (hrb g e.symm).1; omega)
 ·refine ownsRow_kept hrow fun k hk => ?_
  obtain ⟨g, cap, e, _⟩ := ownsRow_some hrow (by omega)
  injection e with e1
  subst e1
  injection hk with hk
  have hk : g = k := hk
  subst hk
  refine hset g (ownsRow_lt hrow g rfl) ?_
  rcases hA2 g rfl with e | e
  ·exact h.nb i g hi e
  ·omega
 ·have : y4.heap[b]? = some (.cells (loC n A C L).toArray 93 (0, 0)) := (hg.block b (by omega) fun e => (hrb b e.symm).2.1 rfl).trans ((hb3.block b hb).trans h.top)
  exact heap_set this _
theorem chk_zero {n : Nat} {L : List MMsg} {m : MMsg} (h : chk n L m = 0) : m.may /\ nms n m = true /\ m.right /\ m.number = cnt L m.oi + 1 /\ blw m.deps (ahd L m.oi) = false /\ blw (kn L) m.deps = false := by
 by_cases h1 : m.may
 ·by_cases h2 : nms n m = true
  ·by_cases h3 : m.right
   ·by_cases h4 : m.number < cnt L m.oi + 1
    ·rw [chk_again h1 h2 h3 h4] at h; cases h
    ·by_cases h5 : cnt L m.oi + 1 < m.number
     ·rw [chk_far h1 h2 h3 h5] at h; cases h
     ·have e : m.number = cnt L m.oi + 1 := by omega
      cases h6 : blw m.deps (ahd L m.oi) with
      | true => rw [chk_low h1 h2 h3 e h6] at h; cases h
      | false =>
       cases h7 : blw (kn L) m.deps with
       | true => rw [chk_next h1 h2 h3 e h6 true h7] at h; cases h
       | false => exact ⟨h1, h2, h3, e, rfl, rfl⟩
   ·rw [chk_tag h1 h2 h3] at h; cases h
  ·rw [chk_names (by simpa using h2)] at h; cases h
 ·rw [chk_may h1] at h; cases h
theorem may_oi {m : MMsg} (h : m.may) : m.oi < 11 /\ m.origin = (m.oi : Int) + 1 := by
 have ho1 : 1 <= m.origin /\ m.origin <= 11 := of_decide_eq_true h.1
 unfold MMsg.oi
 omega
theorem own_slice (A : Option Addr) (n c n' c' : Nat) : (Value.slice A n c).ownBlock = (Value.slice A n' c').ownBlock := by cases A <;> rfl
theorem exec_build2 {P : Program} {o : Oper} {f : Operand -> Value} {w : World} (t : TypeId) (p q : Operand) (ho : o.op = .build t #[(0, p), (1, q)]) (x y v : Value) (hp : f p = x) (hq : f q = y) (hr : (Instr.build t #[(0, x), (1, y)]).run P w = .ok v w) : (execOp f o).run P w = .ok (.value v) w := by
 unfold execOp
 simp only [ho, List.map_toArray, List.map_cons, List.map_nil, hp, hq, Sem.run_bind, hr, Result.andThen_ok]
 rfl
theorem keep4 {v w y3 y4 : World} {row : Option Nat} {C : List Value} {t : TypeId} (hv : Below v.heap.size v w) (hb : Below w.heap.size w y3) (hg : y3.grownBy y4 row) (hr : ∀ k, row = some k -> v.heap.size <= k /\ k < w.heap.size) (hC : y3.heap[w.heap.size]? = some (.cells C.toArray t (0, 0))) :
  Below v.heap.size v y4 /\ y4.rangeAt w.heap.size 0 C := by
 have hs := hb.size
 have hs2 := hv.size
 refine ⟨(hv.trans (hb.mono hs2)).grown hg (by omega) fun k hk => (hr k hk).1, range_of (t := t) ?_⟩
 have hl : w.heap.size < y3.heap.size := (Array.getElem?_eq_some_iff.1 hC).1
 exact (hg.block _ hl fun e => by have := (hr _ e.symm).2; omega).trans hC
theorem keepb {w y3 y4 : World} {row : Option Nat} {b : Nat} (hb : Below w.heap.size w y3) (hg : y3.grownBy y4 row) (hl : b < w.heap.size) (hn : row ≠ some b) : y4.heap[b]? = w.heap[b]? := by
 have hs := hb.size
 exact (hg.block b (by omega) (Ne.symm hn)).trans (hb.block b hl)
theorem keep5 {v w y4 : World} {b i : Nat} {x : Value} {C : List Value} (h : Below v.heap.size v y4 /\ y4.rangeAt w.heap.size 0 C) (hb : v.heap.size <= b /\ b < w.heap.size) :
  Below v.heap.size v (y4.setCell ⟨b, i, none⟩ x) /\ (y4.setCell ⟨b, i, none⟩ x).rangeAt w.heap.size 0 C := by
 refine ⟨h.1.setCell (p := ⟨b, i, none⟩) hb.1 x, fun j u hu => ?_⟩
 have := h.2 j u hu
 by_cases hl : w.heap.size < y4.heap.size
 ·rw [cell_kept ((gb_set y4 b i x).block w.heap.size hl fun e => by injection e with e; omega)]
  exact this
 ·exfalso
  rw [World.cell?] at this
  rw [Array.getElem?_eq_none (by simpa using hl)] at this
  cases this
theorem add_fr {v w : World} {os : List Thing} {b n : Nat} {A : Nat -> Option Addr} {C : Nat -> Nat} {L : List MMsg} (H : Fr v w (loT b n A C L :: os)) (m : MMsg) (hm : m.Wf) (hq : Prs w m.body.qa m.body.qs) (hn : m.body.qs.length <= 1000000) (hl : L.length < 1000000) :
  Calls Tryz.prog 18 #[.pointer (some ⟨b, 0, none⟩), .agg (msgC m).toArray] w fun E w' => E = .returned (.int .i64 (chk n L m)) /\ (chk n L m ≠ 0 -> Fr v w' (loT b n A C L :: os)) /\ (chk n L m = 0 -> ∃ A' C' a c, Fr v w' (loT b n A' C' (L ++ [m.at a c]) :: os)) := by
 have H0 := iq ((Fr.start H.ksW H.posW).box (msgC m).toArray 52)
 have h : LoreAt w b n A C L := H.hd
 have HCh := iq (fun (W : World) (hb : Below w.heap.size w W) => check_any (h.below hb) m hm (hq.below hb) (Nat.le_trans hn (by decide)) (H.below hb).ksW (H.below hb).posW)
 have HI := iq (info_msg hm)
 have HH := iq H
 by_cases hz : chk n L m = 0
 ·obtain ⟨h1, h2, h3, h4, _⟩ := chk_zero hz
  obtain ⟨hoi2, hoi⟩ := may_oi h1
  clear h1 h2 h3 h4
  have HC := iq (fun (W : World) (hb : W.heap[w.heap.size]? = some (.cells (msgC m).toArray 52 (0, 0))) => (msg_lies (range_of hb) hm).origin)
  have HCe := iq (fun (W : World) (hb : Below w.heap.size w W) => (h.below hb).cell hoi2)
  have HLn := iq (fun (W : World) (hb : Below w.heap.size w W) => len_any (h.below hb))
  have HRo : Hid (∀ W, Below w.heap.size w W -> W.ownsRow 0 98 122 (.slice (A m.oi) (cnt L m.oi) (C m.oi)) (cnt L m.oi) ((strm L m.oi).flatMap tkC)) := iq fun W hb => (h.below hb).row m.oi hoi2
  have hkn := h.cnt_le hoi2
  have HOw := iq (fun (W : World) (hb : Below w.heap.size w W) => own_any m W hm (hq.below hb) hn (H.below hb).ksW (H.below hb).posW)
  have HOw2 : Hid (∀ W, Below w.heap.size w W -> w.heap.size <= W.heap.size) := iq fun W hb => hb.size
  have HEn := iq (fun (y3 y4 : World) (hb3 : Below w.heap.size w y3) (a : Option Addr) (c : Nat) => add_end (y4 := y4) H hb3 (m := m.at a c) hoi2 hoi (MMsg.at_wf hm a c))
  have HWf := iq hm
  have HL := iq hl
  have HHz := iq hz
  have HV := iq H.bel
  have HBv : Hid (v.heap.size <= b /\ b < w.heap.size) := iq ⟨H.ge b (.inl rfl), (loT_ok b n A C L).lt w h b (.inl rfl)⟩
  have HRb : Hid (∀ k, (sv A C L m.oi).ownBlock = some k -> v.heap.size <= k /\ k < w.heap.size) := iq fun k hk => (have e := sv_block (h.row m.oi hoi2) hk; ⟨H.ge k (.inr (.inl ⟨m.oi, hoi2, e⟩)), (loT_ok b n A C L).lt w h k (.inr (.inl ⟨m.oi, hoi2, e⟩))⟩)
  have HTop := iq h.top
  have HNb : Hid ((sv A C L m.oi).ownBlock ≠ some b) := iq fun e => h.nb m.oi b hoi2 (sv_block (h.row m.oi hoi2) e) rfl
  rw [hz] at HCh ⊢
  have ho2 : IntKind.i64.wrap (m.origin - 1) = (m.oi : Int) := by rw [IntKind.wrap_i64]; omega
  have ho3 : (0 : Int) <= (m.oi : Int) := by omega
  have ho4 : (m.oi : Int) < 11 := by omega
  have ho5 : (m.oi : Int).toNat = m.oi := by omega
  obtain ⟨o, hoo⟩ : ∃ o, o = m.oi := ⟨_, rfl⟩
  rw [<- hoo] at HCe HRo hkn HEn HRb HNb ho2 ho3 ho4 ho5
  obtain ⟨k, hkk⟩ : ∃ k, k = cnt L o := ⟨_, rfl⟩
  rw [<- hkk] at HCe HRo hkn HEn
  have HKn := iq hkn
  clear h H hm hq hn hz hoi hoi2 hoo hkk hl
  go_enter Tryz.func18, Tryz.ntmps18
  go_wp2_with (first | ((with_reducible refine wpList_load_midG ?_ 52 (.tmp 3) ?_ w.heap.size 0 ?_ (msgC m) _ ?_ Tryz.underlying52 ?_ ?_ ?_); rotate_left; rfl; rfl; exact range_of H0.out.hd; rfl; exact HI.out; rotate_left; rfl) | (go_at_call 17; refine (HCh.out _ H0.out.bel).mono ?_; rintro E w2 ⟨rfl, hb_⟩; have H2 := iq (H0.out.below hb_); clear hb_ HCh H0))
  refine wp_region_any (by kernel_rfl) ?_
  change wpAny _ _ _ _ _ _ _ (World.drewN _ 1)
  refine held_gen (G := fun W' => wpAny _ _ _ _ _ _ _ W') (fun W' => Fr w W' [blkT w.heap.size (msgC m).toArray 52]) (H2.out.drewN 1) (fun x0 hw => ?_)
  have H3 := iq hw
  have HO0 := iq (HC.out x0 hw.hd)
  have HOl : Hid (w.heap.size < x0.heap.size) := iq (blkT_ok _ _ _ |>.lt x0 hw.hd _ rfl)
  clear hw H2
  refine wpAny_of_held (S := fun W => Below x0.heap.size x0 W) _ _ _ _ ?_
  refine tk 0 ⟨some 13, .move (.tmp 0), _, _, _, none⟩ (.pointer (some ⟨b, 0, none⟩)) rfl (by kernel_rfl) (fun _ _ _ => id) bl (fun W hSW => by go_simp) ?_
  try simp only [Act.put, l0, l1, l2]
  refine tk 1 ⟨some 14, .fieldAddr 52 (.tmp 3) 0, _, _, _, none⟩ (.pointer (some ⟨w.heap.size, 0, none⟩)) rfl (by kernel_rfl) (fun _ _ _ => id) bl (fun W hSW => by go_simp) ?_
  try simp only [pu, l0, l1, l2]
  refine tk 2 ⟨some 15, .load 3 (.tmp 14), _, _, _, none⟩ (.int .i64 m.origin) rfl (by kernel_rfl) (fun _ _ _ => id) bl (fun W hSW => by have hv := (hSW.cell (p := ⟨w.heap.size, 0, none⟩) HOl.out).trans HO0.out; go_simp) ?_
  try simp only [pu, l0, l1, l2]
  refine tk 3 ⟨some 16, .binOp .sub 3 (.tmp 15) (.const (.int .i64 1)) 3, _, _, _, none⟩ (.int .i64 (o : Int)) rfl (by kernel_rfl) (fun _ _ _ => id) bl (fun W hSW => by have ho6 := ho2; go_simp) ?_
  try simp only [pu, l0, l1, l2]
  refine tk 4 ⟨some 17, .nilCheck (.tmp 13), _, _, _, none⟩ (.pointer (some ⟨b, 0, none⟩)) rfl (by kernel_rfl) (fun _ _ _ => id) bl (fun W hSW => by go_simp) ?_
  try simp only [pu, l0, l1, l2]
  refine tk 5 ⟨some 18, .fieldAddr 93 (.tmp 17) 1, _, _, _, none⟩ (.pointer (some ⟨b, 1, none⟩)) rfl (by kernel_rfl) (fun _ _ _ => id) bl (fun W hSW => by go_simp) ?_
  try simp only [pu, l0, l1, l2]
  refine tk 6 ⟨some 19, .indexAddr 91 (.tmp 18) (.tmp 16), _, _, _, none⟩ (.pointer (some ⟨b, 1 + o, none⟩)) rfl (by kernel_rfl) (fun _ _ _ => id) bl (fun W hSW => by go_simp) ?_
  try simp only [pu, l0, l1, l2]
  refine tk 7 ⟨some 6, .assign (.tmp 19), _, _, _, none⟩ (.pointer (some ⟨b, 1 + o, none⟩)) rfl (by kernel_rfl) (fun _ _ _ => id) bl (fun W hSW => by go_simp) ?_
  try simp only [pu, l0, l1, l2]
  refine wpAnyH_done (by kernel_rfl) ?_ _
  go_wp2_with fail
  refine wp_region_any (by kernel_rfl) ?_
  change wpAny _ _ _ _ _ _ _ (World.drewN _ 1)
  refine held_gen (G := fun W' => wpAny _ _ _ _ _ _ _ W') (fun W' => Fr w W' [blkT w.heap.size (msgC m).toArray 52]) (H3.out.drewN 1) (fun y0 hw => ?_)
  have G0 := iq hw
  clear hw H3 HO0 HOl
  refine wpAny_of_held (S := fun W => Below v.heap.size v W /\ W.rangeAt w.heap.size 0 (msgC m)) _ _ _ _ ?_
  refine tk 0 ⟨some 20, .move (.tmp 6), _, _, _, none⟩ (.pointer (some ⟨b, 1 + o, none⟩)) rfl (by kernel_rfl) (fun _ _ _ => id) (⟨HV.out.trans (G0.out.bel.mono HV.out.size), range_of G0.out.hd⟩) (fun W hSW => by go_simp) ?_
  try simp only [Act.put, l0, l1, l2]
  refine tk 1 ⟨some 21, .move (.tmp 6), _, _, _, none⟩ (.pointer (some ⟨b, 1 + o, none⟩)) rfl (by kernel_rfl) (fun _ _ _ => id) (⟨HV.out.trans (G0.out.bel.mono HV.out.size), range_of G0.out.hd⟩) (fun W hSW => by go_simp) ?_
  try simp only [pu, l0, l1, l2]
  refine tk 2 ⟨some 22, .nilCheck (.tmp 21), _, _, _, none⟩ (.pointer (some ⟨b, 1 + o, none⟩)) rfl (by kernel_rfl) (fun _ _ _ => id) (⟨HV.out.trans (G0.out.bel.mono HV.out.size), range_of G0.out.hd⟩) (fun W hSW => by go_simp) ?_
  try simp only [pu, l0, l1, l2]
  refine tk 4 ⟨some 24, .load 52 (.tmp 3), _, _, _, none⟩ (.agg (msgC m).toArray) rfl (by kernel_rfl) (fun _ _ _ => id) (⟨HV.out.trans (G0.out.bel.mono HV.out.size), range_of G0.out.hd⟩) (fun W hSW => exec_load_mid 52 (.tmp 3) rfl w.heap.size 0 rfl (msgC m) _ hSW.2 Tryz.underlying52 rfl HI.out) ?_
  try simp only [pu, l0, l1, l2]
  refine tk 6 ⟨some 26, .move (.tmp 0), _, _, _, none⟩ (.pointer (some ⟨b, 0, none⟩)) rfl (by kernel_rfl) (fun _ _ _ => id) (⟨HV.out.trans (G0.out.bel.mono HV.out.size), range_of G0.out.hd⟩) (fun W hSW => by go_simp) ?_
  try simp only [pu, l0, l1, l2]
  refine rdy [3, 5] (by kernel_rfl) ?_
  refine (AllReadyH.cons (o := ⟨some 23, .load 90 (.tmp 22), _, _, _, none⟩) rfl (fun K' hK' => ?_) (AllReadyH.cons (o := ⟨some 25, .call { callee := .value (.func 46), args := #[.tmp 24], argTypes := #[52] }, _, _, _, none⟩) rfl (fun K' hK' => ?_) AllReadyH.nil))
  ·have hc3 := HCe.out _ G0.out.bel
   go_simp
   refine hK'.out _ _ (⟨HV.out.trans (G0.out.bel.mono HV.out.size), range_of G0.out.hd⟩) (fun _ => ?_)
   clear hK' K' hc3
   try simp only [Act.put, l0, l1, l2]
   refine rd1 5 ⟨some 25, .call { callee := .value (.func 46), args := #[.tmp 24], argTypes := #[52] }, _, _, _, none⟩ (by kernel_rfl) rfl fun K' hK' => ?_
   go_simp
   go_at_call 46
   refine (HOw.out _ G0.out.bel).mono ?_
   rintro E y1 ⟨a, c, rfl, hp, hf, b1⟩
   have G1 := iq (G0.out.add (o := qT (m.at a c)) b1 hp (qT_ok _) hf)
   have HF1 : Hid (∀ g, (m.at a c).onQ g -> w.heap.size <= g) := iq fun g hg => Nat.le_trans G0.out.bel.size (hf g hg)
   clear hp hf b1
   refine hK'.out _ _ (⟨HV.out.trans (G1.out.bel.mono HV.out.size), range_of G1.out.hd2⟩) (fun _ => ?_)
   clear hK' K'
   try simp only [Act.put, l0, l1, l2]
   refine rd1 7 ⟨some 27, .call { callee := .value (.func 21), args := #[.tmp 26], argTypes := #[36] }, _, _, _, none⟩ (by kernel_rfl) rfl fun K' hK' => ?_
   go_simp
   go_at_call 21
   refine (HLn.out _ G1.out.bel).mono ?_
   rintro E y2 ⟨rfl, rfl⟩
   refine hK'.out _ _ (⟨HV.out.trans (G1.out.bel.mono HV.out.size), range_of G1.out.hd2⟩) (fun _ => ?_)
   clear hK' K'
   try simp only [Act.put, l0, l1, l2]
   refine tk 8 ⟨some 28, .build 98 #[(0, .tmp 25), (1, .tmp 27)], _, _, _, none⟩ ((.agg (tkC (m.at a c, L.length)).toArray)) rfl (by kernel_rfl) (fun _ _ _ => id) (⟨HV.out.trans (G1.out.bel.mono HV.out.size), range_of G1.out.hd2⟩) (fun W hSW => exec_build2 98 (.tmp 25) (.tmp 27) rfl _ _ _ rfl rfl (build_tk (m.at a c) (MMsg.at_wf HWf.out a c) L.length W)) ?_
   try simp only [pu, l0, l1, l2]
   refine rd1 9 ⟨some 29, .buildSlice 90 1 #[(0, .tmp 28)], _, _, _, none⟩ (by kernel_rfl) rfl fun K' hK' => ?_
   refine step_buildSl rfl 90 98 (.tmp 28) rfl (tkC (m.at a c, L.length)) rfl (buildSl_tk (m.at a c, L.length) (MMsg.at_wf HWf.out a c) _) ?_
   have G3 := iq (G1.out.box (tkC (m.at a c, L.length)).toArray 98)
   refine hK'.out _ _ (⟨HV.out.trans (G3.out.bel.mono HV.out.size), range_of G3.out.hd3⟩) (fun _ => ?_)
   clear hK' K'
   try simp only [Act.put, l0, l1, l2]
   refine rd1 10 ⟨some 30, .call { callee := .builtin .append, args := #[.tmp 23, .tmp 29], argTypes := #[90, 90] }, _, _, _, none⟩ (by kernel_rfl) rfl fun K' hK' => ?_
   obtain ⟨A2, c2, y4, hr4, hrow, hg, hat⟩ := append_tk 90 _ (.slice (A o) k (C o)) k _ (HRo.out _ G3.out.bel) HKn.out _ (m.at a c, L.length) (MMsg.at_wf HWf.out a c) (range_of G3.out.hd)
   refine step_append_one rfl (.tmp 23) (.tmp 29) 90 rfl _ _ rfl rfl _ _ hr4 ?_
   have hg4 : Hid (World.grownBy _ y4 (sv A C L o).ownBlock) := iq (by rw [own_slice (A o) k (C o) (cnt L o) (C o)] at hg; exact hg)
   rw [own_slice (A o) k (C o) (cnt L o) (C o)] at hat
   have HF := iq (HEn.out _ y4 G3.out.bel a c G3.out.hd2 HF1.out hrow hg4.out hat HL.out)
   have HS4 : Hid (Below v.heap.size v y4 /\ y4.rangeAt w.heap.size 0 (msgC m)) := iq (keep4 HV.out G3.out.bel hg4.out HRb.out G3.out.hd3)
   have HB4 : Hid (y4.heap[b]? = w.heap[b]?) := iq (keepb G3.out.bel hg4.out HBv.out.2 HNb.out)
   clear hr4 hrow hg hat
   refine hK'.out _ _ HS4.out (fun _ => ?_)
   clear hK' K'
   try simp only [Act.put, l0, l1, l2]
   refine tk 11 ⟨some 31, .nilCheck (.tmp 20), _, _, _, none⟩ (.pointer (some ⟨b, 1 + o, none⟩)) rfl (by kernel_rfl) (fun _ _ _ => id) (HS4.out) (fun W hSW => by go_simp) ?_
   try simp only [pu, l0, l1, l2]
   refine rd1 12 ⟨none, .store 90 (.tmp 31) (.tmp 30), _, _, _, none⟩ (by kernel_rfl) rfl fun K' hK' => ?_
   have hc12 : y4.cell? ⟨b, 1 + o, none⟩ = some (.slice (A o) k (C o)) := (cell_kept HB4.out (1 + o)).trans (HCe.out w bl)
   have hf12 : y4.frozen? ⟨b, 1 + o, none⟩ = false := free_block (HB4.out.trans HTop.out) (1 + o)
   go_simp
   refine hK'.out _ _ (keep5 HS4.out HBv.out) (fun _ => ?_)
   clear hK' K' hc12 hf12
   refine wpAnyH_done (by kernel_rfl) ?_ _
   go_wp2_with fail
   go_ret
   exact ⟨rfl, fun x => absurd rfl x, fun _ => ⟨_, _, a, c, HF.out⟩⟩
  ·go_simp
   go_at_call 46
   refine (HOw.out _ G0.out.bel).mono ?_
   rintro E y1 ⟨a, c, rfl, hp, hf, b1⟩
   have G1 := iq (G0.out.add (o := qT (m.at a c)) b1 hp (qT_ok _) hf)
   have HF1 : Hid (∀ g, (m.at a c).onQ g -> w.heap.size <= g) := iq fun g hg => Nat.le_trans G0.out.bel.size (hf g hg)
   clear hp hf b1
   refine hK'.out _ _ (⟨HV.out.trans (G1.out.bel.mono HV.out.size), range_of G1.out.hd2⟩) (fun _ => ?_)
   clear hK' K'
   try simp only [Act.put, l0, l1, l2]
   refine rdy [3, 7] (by kernel_rfl) ?_
   refine (AllReadyH.cons (o := ⟨some 23, .load 90 (.tmp 22), _, _, _, none⟩) rfl (fun K' hK' => ?_) (AllReadyH.cons (o := ⟨some 27, .call { callee := .value (.func 21), args := #[.tmp 26], argTypes := #[36] }, _, _, _, none⟩) rfl (fun K' hK' => ?_) AllReadyH.nil))
   ·have hc3 := HCe.out _ G1.out.bel
    go_simp
    refine hK'.out _ _ (⟨HV.out.trans (G1.out.bel.mono HV.out.size), range_of G1.out.hd2⟩) (fun _ => ?_)
    clear hK' K' hc3
    try simp only [Act.put, l0, l1, l2]
    refine rd1 7 ⟨some 27, .call { callee := .value (.func 21), args := #[.tmp 26], argTypes := #[36] }, _, _, _, none⟩ (by kernel_rfl) rfl fun K' hK' => ?_
    go_simp
    go_at_call 21
    refine (HLn.out _ G1.out.bel).mono ?_
    rintro E y2 ⟨rfl, rfl⟩
    refine hK'.out _ _ (⟨HV.out.trans (G1.out.bel.mono HV.out.size), range_of G1.out.hd2⟩) (fun _ => ?_)
    clear hK' K'
    try simp only [Act.put, l0, l1, l2]
    refine tk 8 ⟨some 28, .build 98 #[(0, .tmp 25), (1, .tmp 27)], _, _, _, none⟩ ((.agg (tkC (m.at a c, L.length)).toArray)) rfl (by kernel_rfl) (fun _ _ _ => id) (⟨HV.out.trans (G1.out.bel.mono HV.out.size), range_of G1.out.hd2⟩) (fun W hSW => exec_build2 98 (.tmp 25) (.tmp 27) rfl _ _ _ rfl rfl (build_tk (m.at a c) (MMsg.at_wf HWf.out a c) L.length W)) ?_
    try simp only [pu, l0, l1, l2]
    refine rd1 9 ⟨some 29, .buildSlice 90 1 #[(0, .tmp 28)], _, _, _, none⟩ (by kernel_rfl) rfl fun K' hK' => ?_
    refine step_buildSl rfl 90 98 (.tmp 28) rfl (tkC (m.at a c, L.length)) rfl (buildSl_tk (m.at a c, L.length) (MMsg.at_wf HWf.out a c) _) ?_
    have G3 := iq (G1.out.box (tkC (m.at a c, L.length)).toArray 98)
    refine hK'.out _ _ (⟨HV.out.trans (G3.out.bel.mono HV.out.size), range_of G3.out.hd3⟩) (fun _ => ?_)
    clear hK' K'
    try simp only [Act.put, l0, l1, l2]
    refine rd1 10 ⟨some 30, .call { callee := .builtin .append, args := #[.tmp 23, .tmp 29], argTypes := #[90, 90] }, _, _, _, none⟩ (by kernel_rfl) rfl fun K' hK' => ?_
    obtain ⟨A2, c2, y4, hr4, hrow, hg, hat⟩ := append_tk 90 _ (.slice (A o) k (C o)) k _ (HRo.out _ G3.out.bel) HKn.out _ (m.at a c, L.length) (MMsg.at_wf HWf.out a c) (range_of G3.out.hd)
    refine step_append_one rfl (.tmp 23) (.tmp 29) 90 rfl _ _ rfl rfl _ _ hr4 ?_
    have hg4 : Hid (World.grownBy _ y4 (sv A C L o).ownBlock) := iq (by rw [own_slice (A o) k (C o) (cnt L o) (C o)] at hg; exact hg)
    rw [own_slice (A o) k (C o) (cnt L o) (C o)] at hat
    have HF := iq (HEn.out _ y4 G3.out.bel a c G3.out.hd2 HF1.out hrow hg4.out hat HL.out)
    have HS4 : Hid (Below v.heap.size v y4 /\ y4.rangeAt w.heap.size 0 (msgC m)) := iq (keep4 HV.out G3.out.bel hg4.out HRb.out G3.out.hd3)
    have HB4 : Hid (y4.heap[b]? = w.heap[b]?) := iq (keepb G3.out.bel hg4.out HBv.out.2 HNb.out)
    clear hr4 hrow hg hat
    refine hK'.out _ _ HS4.out (fun _ => ?_)
    clear hK' K'
    try simp only [Act.put, l0, l1, l2]
    refine tk 11 ⟨some 31, .nilCheck (.tmp 20), _, _, _, none⟩ (.pointer (some ⟨b, 1 + o, none⟩)) rfl (by kernel_rfl) (fun _ _ _ => id) (HS4.out) (fun W hSW => by go_simp) ?_
    try simp only [pu, l0, l1, l2]
    refine rd1 12 ⟨none, .store 90 (.tmp 31) (.tmp 30), _, _, _, none⟩ (by kernel_rfl) rfl fun K' hK' => ?_
    have hc12 : y4.cell? ⟨b, 1 + o, none⟩ = some (.slice (A o) k (C o)) := (cell_kept HB4.out (1 + o)).trans (HCe.out w bl)
    have hf12 : y4.frozen? ⟨b, 1 + o, none⟩ = false := free_block (HB4.out.trans HTop.out) (1 + o)
    go_simp
    refine hK'.out _ _ (keep5 HS4.out HBv.out) (fun _ => ?_)
    clear hK' K' hc12 hf12
    refine wpAnyH_done (by kernel_rfl) ?_ _
    go_wp2_with fail
    go_ret
    exact ⟨rfl, fun x => absurd rfl x, fun _ => ⟨_, _, a, c, HF.out⟩⟩
   ·go_simp
    go_at_call 21
    refine (HLn.out _ G1.out.bel).mono ?_
    rintro E y2 ⟨rfl, rfl⟩
    refine hK'.out _ _ (⟨HV.out.trans (G1.out.bel.mono HV.out.size), range_of G1.out.hd2⟩) (fun _ => ?_)
    clear hK' K'
    try simp only [Act.put, l0, l1, l2]
    refine tk 8 ⟨some 28, .build 98 #[(0, .tmp 25), (1, .tmp 27)], _, _, _, none⟩ ((.agg (tkC (m.at a c, L.length)).toArray)) rfl (by kernel_rfl) (fun _ _ _ => id) (⟨HV.out.trans (G1.out.bel.mono HV.out.size), range_of G1.out.hd2⟩) (fun W hSW => exec_build2 98 (.tmp 25) (.tmp 27) rfl _ _ _ rfl rfl (build_tk (m.at a c) (MMsg.at_wf HWf.out a c) L.length W)) ?_
    try simp only [pu, l0, l1, l2]
    refine rdy [3, 9] (by kernel_rfl) ?_
    refine (AllReadyH.cons (o := ⟨some 23, .load 90 (.tmp 22), _, _, _, none⟩) rfl (fun K' hK' => ?_) (AllReadyH.cons (o := ⟨some 29, .buildSlice 90 1 #[(0, .tmp 28)], _, _, _, none⟩) rfl (fun K' hK' => ?_) AllReadyH.nil))
    ·have hc3 := HCe.out _ G1.out.bel
     go_simp
     refine hK'.out _ _ (⟨HV.out.trans (G1.out.bel.mono HV.out.size), range_of G1.out.hd2⟩) (fun _ => ?_)
     clear hK' K' hc3
     try simp only [Act.put, l0, l1, l2]
     refine rd1 9 ⟨some 29, .buildSlice 90 1 #[(0, .tmp 28)], _, _, _, none⟩ (by kernel_rfl) rfl fun K' hK' => ?_
     refine step_buildSl rfl 90 98 (.tmp 28) rfl (tkC (m.at a c, L.length)) rfl (buildSl_tk (m.at a c, L.length) (MMsg.at_wf HWf.out a c) _) ?_
     have G3 := iq (G1.out.box (tkC (m.at a c, L.length)).toArray 98)
     refine hK'.out _ _ (⟨HV.out.trans (G3.out.bel.mono HV.out.size), range_of G3.out.hd3⟩) (fun _ => ?_)
     clear hK' K'
     try simp only [Act.put, l0, l1, l2]
     refine rd1 10 ⟨some 30, .call { callee := .builtin .append, args := #[.tmp 23, .tmp 29], argTypes := #[90, 90] }, _, _, _, none⟩ (by kernel_rfl) rfl fun K' hK' => ?_
     obtain ⟨A2, c2, y4, hr4, hrow, hg, hat⟩ := append_tk 90 _ (.slice (A o) k (C o)) k _ (HRo.out _ G3.out.bel) HKn.out _ (m.at a c, L.length) (MMsg.at_wf HWf.out a c) (range_of G3.out.hd)
     refine step_append_one rfl (.tmp 23) (.tmp 29) 90 rfl _ _ rfl rfl _ _ hr4 ?_
     have hg4 : Hid (World.grownBy _ y4 (sv A C L o).ownBlock) := iq (by rw [own_slice (A o) k (C o) (cnt L o) (C o)] at hg; exact hg)
     rw [own_slice (A o) k (C o) (cnt L o) (C o)] at hat
     have HF := iq (HEn.out _ y4 G3.out.bel a c G3.out.hd2 HF1.out hrow hg4.out hat HL.out)
     have HS4 : Hid (Below v.heap.size v y4 /\ y4.rangeAt w.heap.size 0 (msgC m)) := iq (keep4 HV.out G3.out.bel hg4.out HRb.out G3.out.hd3)
     have HB4 : Hid (y4.heap[b]? = w.heap[b]?) := iq (keepb G3.out.bel hg4.out HBv.out.2 HNb.out)
     clear hr4 hrow hg hat
     refine hK'.out _ _ HS4.out (fun _ => ?_)
     clear hK' K'
     try simp only [Act.put, l0, l1, l2]
     refine tk 11 ⟨some 31, .nilCheck (.tmp 20), _, _, _, none⟩ (.pointer (some ⟨b, 1 + o, none⟩)) rfl (by kernel_rfl) (fun _ _ _ => id) (HS4.out) (fun W hSW => by go_simp) ?_
     try simp only [pu, l0, l1, l2]
     refine rd1 12 ⟨none, .store 90 (.tmp 31) (.tmp 30), _, _, _, none⟩ (by kernel_rfl) rfl fun K' hK' => ?_
     have hc12 : y4.cell? ⟨b, 1 + o, none⟩ = some (.slice (A o) k (C o)) := (cell_kept HB4.out (1 + o)).trans (HCe.out w bl)
     have hf12 : y4.frozen? ⟨b, 1 + o, none⟩ = false := free_block (HB4.out.trans HTop.out) (1 + o)
     go_simp
     refine hK'.out _ _ (keep5 HS4.out HBv.out) (fun _ => ?_)
     clear hK' K' hc12 hf12
     refine wpAnyH_done (by kernel_rfl) ?_ _
     go_wp2_with fail
     go_ret
     exact ⟨rfl, fun x => absurd rfl x, fun _ => ⟨_, _, a, c, HF.out⟩⟩
    ·refine step_buildSl rfl 90 98 (.tmp 28) rfl (tkC (m.at a c, L.length)) rfl (buildSl_tk (m.at a c, L.length) (MMsg.at_wf HWf.out a c) _) ?_
     have G3 := iq (G1.out.box (tkC (m.at a c, L.length)).toArray 98)
     refine hK'.out _ _ (⟨HV.out.trans (G3.out.bel.mono HV.out.size), range_of G3.out.hd3⟩) (fun _ => ?_)
     clear hK' K'
     try simp only [Act.put, l0, l1, l2]
     refine rd1 3 ⟨some 23, .load 90 (.tmp 22), _, _, _, none⟩ (by kernel_rfl) rfl fun K' hK' => ?_
     have hc3 := HCe.out _ G3.out.bel
     go_simp
     refine hK'.out _ _ (⟨HV.out.trans (G3.out.bel.mono HV.out.size), range_of G3.out.hd3⟩) (fun _ => ?_)
     clear hK' K' hc3
     try simp only [Act.put, l0, l1, l2]
     refine rd1 10 ⟨some 30, .call { callee := .builtin .append, args := #[.tmp 23, .tmp 29], argTypes := #[90, 90] }, _, _, _, none⟩ (by kernel_rfl) rfl fun K' hK' => ?_
     obtain ⟨A2, c2, y4, hr4, hrow, hg, hat⟩ := append_tk 90 _ (.slice (A o) k (C o)) k _ (HRo.out _ G3.out.bel) HKn.out _ (m.at a c, L.length) (MMsg.at_wf HWf.out a c) (range_of G3.out.hd)
     refine step_append_one rfl (.tmp 23) (.tmp 29) 90 rfl _ _ rfl rfl _ _ hr4 ?_
     have hg4 : Hid (World.grownBy _ y4 (sv A C L o).ownBlock) := iq (by rw [own_slice (A o) k (C o) (cnt L o) (C o)] at hg; exact hg)
     rw [own_slice (A o) k (C o) (cnt L o) (C o)] at hat
     have HF := iq (HEn.out _ y4 G3.out.bel a c G3.out.hd2 HF1.out hrow hg4.out hat HL.out)
     have HS4 : Hid (Below v.heap.size v y4 /\ y4.rangeAt w.heap.size 0 (msgC m)) := iq (keep4 HV.out G3.out.bel hg4.out HRb.out G3.out.hd3)
     have HB4 : Hid (y4.heap[b]? = w.heap[b]?) := iq (keepb G3.out.bel hg4.out HBv.out.2 HNb.out)
     clear hr4 hrow hg hat
     refine hK'.out _ _ HS4.out (fun _ => ?_)
     clear hK' K'
     try simp only [Act.put, l0, l1, l2]
     refine tk 11 ⟨some 31, .nilCheck (.tmp 20), _, _, _, none⟩ (.pointer (some ⟨b, 1 + o, none⟩)) rfl (by kernel_rfl) (fun _ _ _ => id) (HS4.out) (fun W hSW => by go_simp) ?_
     try simp only [pu, l0, l1, l2]
     refine rd1 12 ⟨none, .store 90 (.tmp 31) (.tmp 30), _, _, _, none⟩ (by kernel_rfl) rfl fun K' hK' => ?_
     have hc12 : y4.cell? ⟨b, 1 + o, none⟩ = some (.slice (A o) k (C o)) := (cell_kept HB4.out (1 + o)).trans (HCe.out w bl)
     have hf12 : y4.frozen? ⟨b, 1 + o, none⟩ = false := free_block (HB4.out.trans HTop.out) (1 + o)
     go_simp
     refine hK'.out _ _ (keep5 HS4.out HBv.out) (fun _ => ?_)
     clear hK' K' hc12 hf12
     refine wpAnyH_done (by kernel_rfl) ?_ _
     go_wp2_with fail
     go_ret
     exact ⟨rfl, fun x => absurd rfl x, fun _ => ⟨_, _, a, c, HF.out⟩⟩
 ·have HZ := iq hz
  obtain ⟨e, he⟩ : ∃ e, e = chk n L m := ⟨_, rfl⟩
  rw [<- he] at HCh HZ hz ⊢
  clear h H hm hq hn he
  go_enter Tryz.func18, Tryz.ntmps18
  go_wp2_with (first | ((with_reducible refine wpList_load_midG ?_ 52 (.tmp 3) ?_ w.heap.size 0 ?_ (msgC m) _ ?_ Tryz.underlying52 ?_ ?_ ?_); rotate_left; rfl; rfl; exact range_of H0.out.hd; rfl; exact HI.out; rotate_left; rfl) | (go_at_call 17; refine (HCh.out _ H0.out.bel).mono ?_; rintro E w2 ⟨rfl, hb_⟩; have HB2 := iq (H0.out.bel.trans (hb_.mono H0.out.bel.size)); clear hb_))
  go_ret
  exact ⟨rfl, fun _ => HH.out.below HB2.out, fun x => absurd x HZ.out⟩
end Go.Proofs.YtllbbcifcbkgeaaGreatDoor.Sh
