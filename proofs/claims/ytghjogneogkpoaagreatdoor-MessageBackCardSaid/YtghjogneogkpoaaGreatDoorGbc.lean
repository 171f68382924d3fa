/-
  What is proved: a body of each Kind, read of a cut. Conditions as stated.
-/
import Derived.Test.YtghjogneogkpoaaGreatDoorGac
namespace Go.Proofs.YtghjogneogkpoaaGreatDoor.Sh
open Go.RowKit
set_option maxRecDepth 100000


def prsC (qs : List (Int × Nat)) : List Value := qs.flatMap prC
theorem prsC_len (qs : List (Int × Nat)) : (prsC qs).length = qs.length * 2 := by
  induction qs with
  | nil => rfl
  | cons p t ih => rw [prsC, List.flatMap_cons, List.length_append]; rw [prsC] at ih; rw [ih]; simp [prC]; omega
theorem prsC_at {qs : List (Int × Nat)} {j : Nat} {p : Int × Nat} (h : qs[j]? = some p) : (prsC qs)[j * 2]? = some (.int .i64 p.1) ∧ (prsC qs)[j * 2 + 1]? = some (.int .u64 (p.2 : Int)) := by
  induction qs generalizing j with
  | nil => simp at h
  | cons q t ih =>
    cases j with
    | zero =>
      simp at h
      subst h
      simp [prsC, prC]
    | succ i =>
      have := ih (j := i) (by simpa using h)
      have e : ∀ k, (prsC (q :: t))[k + 2]? = (prsC t)[k]? := fun k => by simp [prsC, prC]
      rw [show (i + 1) * 2 = i * 2 + 2 by omega, show i * 2 + 2 + 1 = i * 2 + 1 + 2 by omega, e, e]
      exact this
/-- A row of pairs of one's own. -/
def QOw (B : Nat) (w : World) (A : Option Addr) (c : Nat) (qs : List (Int × Nat)) : Prop := w.ownsRow B 54 2 (.slice A qs.length c) qs.length (prsC qs)
theorem QOw.nil (B : Nat) (w : World) : QOw B w none 0 [] := World.ownsRow_nil _ _ _ _
theorem QOw.low {B B' c : Nat} {w : World} {A : Option Addr} {qs : List (Int × Nat)} (h : QOw B w A c qs) (hB : B' ≤ B) : QOw B' w A c qs := by
  rcases h.2 with ⟨h1, h2⟩ | ⟨g, cap, cur, h1, h2, h3⟩
  · exact ⟨h.1, .inl ⟨h1, h2⟩⟩
  · exact ⟨h.1, .inr ⟨g, cap, cur, h1, Nat.le_trans hB h2, h3⟩⟩
theorem QOw.keep {B c : Nat} {w w' : World} {A : Option Addr} {qs : List (Int × Nat)} (h : QOw B w A c qs) (hk : ∀ g, B ≤ g → g < w.heap.size → w'.heap[g]? = w.heap[g]?) : QOw B w' A c qs := by
  rcases h.2 with ⟨h1, h2⟩ | ⟨g, cap, cur, h1, h2, h3, h4⟩
  · exact ⟨h.1, .inl ⟨h1, h2⟩⟩
  · exact ⟨h.1, .inr ⟨g, cap, cur, h1, h2, (hk g h2 (Array.getElem?_eq_some_iff.1 h3).1).trans h3, h4⟩⟩
theorem QOw.below {B c : Nat} {w w' : World} {A : Option Addr} {qs : List (Int × Nat)} (h : QOw B w A c qs) (hb : Below w.heap.size w w') : QOw B w' A c qs := h.keep fun g _ hl => hb.block g hl
theorem QOw.far {B c k : Nat} {w w' : World} {A : Option Addr} {qs : List (Int × Nat)} (h : QOw B w A c qs) (hg : w.grownBy w' (some k)) (hk : k < B) : QOw B w' A c qs := h.keep fun g hB hl => hg.block g hl (fun e => by injection e with e; omega)
theorem QOw.prs {B c : Nat} {w : World} {A : Option Addr} {qs : List (Int × Nat)} (h : QOw B w A c qs) : Prs w A qs := fun hp => by
  rcases h.2 with ⟨h1, h2⟩ | ⟨g, cap, cur, h1, h2, h3, h4, h5, h6, h7⟩
  · omega
  · injection h1 with h1
    refine ⟨g, 0, h1, (Array.getElem?_eq_some_iff.1 h3).1, fun j p hj => ?_⟩
    have hc : ∀ k v, (prsC qs)[k]? = some v → w.cell? ⟨g, k, none⟩ = some v := fun k v hv => by
      rw [cell_of_row w g k cur 54 (0, 0) h3]
      rw [← h7, List.getElem?_take] at hv
      split at hv
      · simpa using hv
      · cases hv
    have := prsC_at hj
    simp only [Nat.zero_add]
    exact ⟨hc _ _ this.1, hc _ _ this.2⟩
theorem Tryz.info54 : (Tryz.prog.info? 54).map (fun i => (i.zero, i.size, i.bytes)) = some (some (.agg #[.int .i64 0, .int .u64 0]), 2, 16) := by kernel_rfl
theorem step_append_pr {w : World} {ops : Array Oper} {o : Oper} {a : Act} {K : Act → World → Prop} {Q : Exit → Act → World → Prop} {E : Prop} (hgd : o.guard = none) (s x : Operand)
    (ho : o.op = Op.call { callee := Callee.builtin Builtin.append, args := #[s, x], argTypes := #[30, 30] })
    (B c k g : Nat) (A : Option Addr) (qs : List (Int × Nat)) (p : Int × Nat) (hn : qs.length = k) (hs : a.eval s = .slice A k c) (hx : a.eval x = .slice (some ⟨g, 0, none⟩) 1 1)
    (hown : QOw B w A c qs) (hr : w.rangeAt g 0 (prC p)) (hB : B ≤ w.heap.size) (hm : k ≤ 1000000)
    (h : ∀ A' c' w', Hid (QOw B w' A' c' (qs ++ [p])) → Hid (w.grownBy w' (Value.slice A k c).ownBlock) → K (a.put o.dst (.slice A' (k + 1) c')) w') :
    if Region.wanted o (yielded ops a.tmps) = true then Oper.wp Tryz.prog o a w K Q else E := by
  subst hn
  obtain ⟨i0, hi, hz0, hz1, hz2⟩ := info_parts Tryz.info54
  have hw : Region.wanted o (yielded ops a.tmps) = true := by simp [Region.wanted, hgd]
  rw [if_pos hw]
  refine wp_append_own w s x 30 ho B 54 i0 (.agg #[.int .i64 0, .int .u64 0]) 2 16 Tryz.underlying30 hi hz0 hz1 hz2 rfl (by decide) (.slice A qs.length c) qs.length _ hs hown ⟨g, 0, none⟩ 1 1 (prC p) hx rfl ?_ (by simp [prC, Value.oneCell']) (by unfold maxLen; omega) (by omega) hB ?_
  · intro j u hu
    rw [Addr.add_lit]
    exact hr j u hu
  · intro v' w' hv' hg' _
    have hp : prsC (qs ++ [p]) = prsC qs ++ prC p := by simp [prsC]
    rcases hv'.2 with ⟨h1, h2⟩ | ⟨g', cap, cur, h1, _⟩
    · omega
    · subst h1
      refine h _ _ w' (Lib.hid ?_) (Lib.hid hg')
      rw [QOw, hp, List.length_append]
      exact hv'
theorem CtX.row {w : World} {lo g gm n : Nat} {s : Cst} {Z C : List Value} {t : TypeId} {wr w' : World} {v : Value} {xs : List Value} (H : CtX w lo g gm s Z C t wr) (ho : wr.ownsRow (gm + 1) 54 2 v n xs) (hg : wr.grownBy w' v.ownBlock) : CtX w lo g gm s Z C t w' := by
  cases hv : v.ownBlock with
  | none =>
    rw [hv] at hg
    exact H.below ((Below.refl _ _).grown hg (Nat.le_refl _) (fun k hk => by cases hk))
  | some k =>
    have hk := (ho.lt k hv).1
    have h1 := H.lt
    have h2 := H.lg
    have h3 := H.ltm
    rw [hv] at hg
    exact ⟨H.cut.far hg (by omega), gb_new H.gb hg (by omega), (hg.block _ (by omega) (fun e => by injection e with e; omega)).trans H.res, (hg.block _ h3 (fun e => by injection e with e; omega)).trans H.msg, h1, h2⟩
/-- What a reader of bodies does. -/
def CutsG (f : Nat) (rd : Cst → MBody × Cst) : Prop :=
  ∀ (w : World) (lo g : Nat) (s : Cst), CtS w lo g s → Calls Tryz.prog f #[.pointer (some ⟨g, 0, none⟩)] w fun E w' => ∃ A c, E = .returned (.agg (bodyC { (rd s).1 with qa := A, qc := c }).toArray) ∧ QOw w.heap.size w' A c (rd s).1.qs ∧ CtS w' lo g (rd s).2 ∧ Hid (w.grownBy w' (some g))
theorem Cuts.gen {f : Nat} {rd : Cst → MBody × Cst} (h : Cuts f rd) (hq : ∀ s, (rd s).1.qs = [] ∧ (rd s).1 = { (rd s).1 with qa := none, qc := 0 }) : CutsG f rd := fun w lo g s hc =>
  (h w lo g s hc).mono fun E w' ⟨he, h1, h2⟩ => ⟨none, 0, by rw [← (hq s).2]; exact he, by rw [(hq s).1]; exact QOw.nil _ _, h1, h2⟩
def rdReq (s : Cst) : MReq × Cst :=
  let a1 := cByte s; let a2 := cByte a1.2; let a3 := cWord a2.2; let a4 := cWord a3.2
  let a5 := cText 32 a4.2; let a6 := cText 128 a5.2; let a7 := cText 128 a6.2; let a8 := cText 32 a7.2
  ({ client := (a1.1 : Int), time := a3.1, op := ⟨UInt8.ofNat a2.1, a5.1, a6.1, a7.1, a8.1, a4.1⟩, tag := noTag }, a8.2)
theorem cutRequest_ms {w : World} {lo g : Nat} {s : Cst} (h : CtS w lo g s) :
    Calls Tryz.prog 119 #[.pointer (some ⟨g, 0, none⟩)] w fun E w' => E = .returned (.agg (reqC (rdReq s).1).toArray) ∧ CtS w' lo g (rdReq s).2 ∧ Hid (w.grownBy w' (some g)) :=
  cutRequest_by _ _ _ _ _ _ _ _ _ _ _ _ _ _ _ _ h rfl rfl rfl rfl rfl rfl rfl rfl
def rdPrepare (s : Cst) : MBody × Cst :=
  let v := cWord s; let q := rdReq v.2; let t := cTag q.2
  ({ zeroBody with view := v.1, req := { q.1 with tag := t.1 } }, t.2)
def rdCheck (s : Cst) : MBody × Cst :=
  let k := cWord s; let d := cTag k.2
  ({ zeroBody with k := k.1, dig := d.1 }, d.2)
set_option maxHeartbeats 4000000 in
theorem cutCheck_by {w : World} {lo g : Nat} {s : Cst} (k : Nat) (d : List UInt8) (s1 s2 : Cst) (h : CtS w lo g s) (e1 : cWord s = (k, s1)) (e2 : cTag s1 = (d, s2)) :
    Calls Tryz.prog 106 #[.pointer (some ⟨g, 0, none⟩)] w fun E w' => E = .returned (.agg (bodyC ({ zeroBody with k := k, dig := d } : MBody)).toArray) ∧ CtS w' lo g s2 ∧ Hid (w.grownBy w' (some g)) := by
  have hd : d.length = 32 := by have := cTag_len s1; rw [e2] at this; exact this
  have HD := Lib.hid hd
  have HJ : Hid ((Tryz.prog.info? 27).map (·.size) = some (u8s d).length) := Lib.hid (by rw [u8s_length, hd]; exact Tryz.size27)
  have HSD : Hid (44 + (u8s d).length ≤ (bodyC ({ zeroBody with k := k } : MBody)).length ∧ setAll (bodyC ({ zeroBody with k := k } : MBody)) 44 (u8s d) = bodyC ({ zeroBody with k := k, dig := d } : MBody)) := Lib.hid ⟨by rw [u8s_length, hd, bodyC_length (b := ({ zeroBody with k := k } : MBody)) ⟨rfl, rfl⟩]; omega, set_dig ({ zeroBody with k := k } : MBody) d rfl rfl hd⟩
  have HG := Lib.hid h.lt
  have hz : ∀ w, (zeroValue 32).run Tryz.prog w = .ok (.agg (bodyC zeroBody).toArray) w := zero_body
  have HL : Hid (∀ q : MBody, q.Wf → 0 + (bodyC q).length ≤ (bodyC zeroBody).length ∧ setAll (bodyC zeroBody) 0 (bodyC q) = bodyC q ∧ (Tryz.prog.info? 32).map (·.size) = some (bodyC q).length) := Lib.hid fun q hq => ⟨by rw [bodyC_length hq, bodyC_length zero_wf]; omega, setAll_all (by rw [bodyC_length hq, bodyC_length zero_wf]), by rw [bodyC_length hq]; exact Tryz.is32⟩
  have HC0 := Lib.hid (h.below ((Below.refl _ _).alloc (Nat.le_refl _) (.cells (bodyC zeroBody).toArray 32)))
  have C1 : Hid (∀ W, CtS W lo g s → Calls Tryz.prog 44 #[.pointer (some ⟨g, 0, none⟩)] W fun E w' => E = .returned (.int .u64 (k : Int)) ∧ CtS w' lo g s1 ∧ Hid (W.grownBy w' (some g))) := Lib.hid (fun W hW => by have h1 := word_s hW; rw [e1] at h1; exact h1)
  have C2 : Hid (∀ W, CtS W lo g s1 → Calls Tryz.prog 46 #[.pointer (some ⟨g, 0, none⟩)] W fun E w' => E = .returned (.agg (u8s d).toArray) ∧ CtS w' lo g s2 ∧ Hid (W.grownBy w' (some g))) := Lib.hid (fun W hW => by have h1 := cutTag_ms hW; rw [e2] at h1; exact h1)
  clear h e1 e2 hd
  go_enter Tryz.func106, Tryz.ntmps106
  go_wp2_with (first | (go_at_call 44; (with_reducible refine (C1.out _ HC0.out).mono ?_); rintro E w1 ⟨rfl, hc1, hg1⟩; have D1 := Lib.hid (CtX.start HG.out hc1 hg1.out)) | ((with_reducible refine wpList_store_part ?_ 32 (.tmp 3) (.tmp 6) ?_ w1.heap.size 0 (bodyC zeroBody) (bodyC ({ zeroBody with k := k } : MBody)) (bodyC ({ zeroBody with k := k } : MBody)) 32 ?_ ?_ ?_ ?_ ?_ ?_ ?_ ?_); (· rfl); (· rfl); (· exact D1.out.msg); (· exact (HL.out _ ⟨rfl, rfl⟩).1); (· exact (HL.out _ ⟨rfl, rfl⟩).2.1); (· rfl); (· rfl); (· exact (HL.out _ ⟨rfl, rfl⟩).2.2); (· exact one_bodyC _); intro w2 G2; have D2 := Lib.hid (D1.out.put G2.out)) | (go_at_call 46; (with_reducible refine (C2.out _ D2.out.cut).mono ?_); rintro E w3 ⟨rfl, hc3, hg3⟩; have D3 := Lib.hid (D2.out.turn hg3.out hc3)) | ((with_reducible refine wpList_store_part ?_ 27 (.tmp 9) (.tmp 8) ?_ w1.heap.size 44 (bodyC ({ zeroBody with k := k } : MBody)) (bodyC ({ zeroBody with k := k, dig := d } : MBody)) (u8s d) 32 ?_ ?_ ?_ ?_ ?_ ?_ ?_ ?_); (· rfl); (· rfl); (· exact D3.out.msg); (· exact HSD.out.1); (· exact HSD.out.2); (· rfl); (· rfl); (· exact HJ.out); (· exact u8s_one _); intro w4 G4; have D4 := Lib.hid (D3.out.put G4.out)) | ((with_reducible refine wpList_load_midG ?_ 32 (.tmp 3) ?_ w1.heap.size 0 ?_ (bodyC ({ zeroBody with k := k, dig := d } : MBody)) _ ?_ Tryz.underlying32 ?_ ?_ ?_); (· rfl); (· rfl); (· rfl); (· exact range_of D4.out.msg); (· rfl); (· exact (HL.out _ ⟨rfl, HD.out⟩).2.2)) | ((with_reducible refine wpList_store_part ?_ 32 (.tmp 2) (.tmp 10) ?_ w.heap.size 0 (bodyC zeroBody) (bodyC ({ zeroBody with k := k, dig := d } : MBody)) (bodyC ({ zeroBody with k := k, dig := d } : MBody)) 32 ?_ ?_ ?_ ?_ ?_ ?_ ?_ ?_); (· rfl); (· rfl); (· exact D4.out.res); (· exact (HL.out _ ⟨rfl, HD.out⟩).1); (· exact (HL.out _ ⟨rfl, HD.out⟩).2.1); (· rfl); (· rfl); (· exact (HL.out _ ⟨rfl, HD.out⟩).2.2); (· exact one_bodyC _); intro w9 G9))
  exact bodyPost_ret (ret_range (cs := bodyC ({ zeroBody with k := k, dig := d } : MBody)) rfl rfl (range_of G9.out.1) Tryz.underlying32 rfl (HL.out _ ⟨rfl, HD.out⟩).2.2) rfl ⟨rfl, D4.out.cut.far G9.out.2 HG.out, Lib.hid (gb_new D4.out.gb G9.out.2 (Nat.le_refl _))⟩
theorem set_rtagB (o : MBody) (t : List UInt8) (h1 : o.req.tag.length = 32) (ht : t.length = 32) : setAll (bodyC o) 11 (u8s t) = bodyC { o with req := { o.req with tag := t } } := by
  have e : ∀ t : List UInt8, bodyC { o with req := { o.req with tag := t } } = (.int .u8 (o.kind.toNat : Int) :: .int .u64 (o.view : Int) :: .int .u64 (o.k : Int) :: .int .i64 o.req.client :: .int .u64 (o.req.time : Int) :: opC o.req.op) ++ (u8s t ++ (o.qv :: u8s o.dig)) := fun t => by simp [bodyC, reqC, MBody.qv]
  have hl : (Value.int .u8 (o.kind.toNat : Int) :: .int .u64 (o.view : Int) :: .int .u64 (o.k : Int) :: .int .i64 o.req.client :: .int .u64 (o.req.time : Int) :: opC o.req.op).length = 11 := by simp [opC_length]
  have := setAll_mid (u8s t) (.int .u8 (o.kind.toNat : Int) :: .int .u64 (o.view : Int) :: .int .u64 (o.k : Int) :: .int .i64 o.req.client :: .int .u64 (o.req.time : Int) :: opC o.req.op) (u8s o.req.tag) (o.qv :: u8s o.dig) (by rw [u8s_length, u8s_length, h1, ht])
  rw [hl, ← e t, ← e o.req.tag] at this
  exact this
set_option maxHeartbeats 4000000 in
theorem cutPrepare_by {w : World} {lo g : Nat} {s : Cst} (v : Nat) (r : MReq) (d : List UInt8) (s1 s2 s3 : Cst) (h : CtS w lo g s) (e1 : rdView s = (({ zeroBody with view := v } : MBody), s1)) (e2 : rdReq s1 = (r, s2)) (e3 : cTag s2 = (d, s3)) :
    Calls Tryz.prog 102 #[.pointer (some ⟨g, 0, none⟩)] w fun E w' => E = .returned (.agg (bodyC ({ zeroBody with view := v, req := { r with tag := d } } : MBody)).toArray) ∧ CtS w' lo g s3 ∧ Hid (w.grownBy w' (some g)) := by
  have hd : d.length = 32 := by have := cTag_len s2; rw [e3] at this; exact this
  have hrt : r.tag.length = 32 := by have : (rdReq s1).1.tag.length = 32 := rfl; rw [e2] at this; exact this
  have HD := Lib.hid hd
  have HR := Lib.hid hrt
  have HJ : Hid ((Tryz.prog.info? 27).map (·.size) = some (u8s d).length) := Lib.hid (by rw [u8s_length, hd]; exact Tryz.size27)
  have HIR : Hid ((Tryz.prog.info? 29).map (·.size) = some (reqC r).length) := Lib.hid (by rw [reqC_length hrt]; exact Tryz.is29)
  have HSR : Hid (3 + (reqC r).length ≤ (bodyC ({ zeroBody with view := v } : MBody)).length ∧ setAll (bodyC ({ zeroBody with view := v } : MBody)) 3 (reqC r) = bodyC ({ zeroBody with view := v, req := r } : MBody)) := Lib.hid ⟨by rw [reqC_length hrt, bodyC_length (b := ({ zeroBody with view := v } : MBody)) ⟨rfl, rfl⟩]; omega, set_req ({ zeroBody with view := v } : MBody) r rfl hrt⟩
  have HSD : Hid (11 + (u8s d).length ≤ (bodyC ({ zeroBody with view := v, req := r } : MBody)).length ∧ setAll (bodyC ({ zeroBody with view := v, req := r } : MBody)) 11 (u8s d) = bodyC ({ zeroBody with view := v, req := { r with tag := d } } : MBody)) := Lib.hid ⟨by rw [u8s_length, hd, bodyC_length (b := ({ zeroBody with view := v, req := r } : MBody)) ⟨hrt, rfl⟩]; omega, set_rtagB ({ zeroBody with view := v, req := r } : MBody) d hrt hd⟩
  have HG := Lib.hid h.lt
  have hz : ∀ w, (zeroValue 32).run Tryz.prog w = .ok (.agg (bodyC zeroBody).toArray) w := zero_body
  have HL : Hid (∀ q : MBody, q.Wf → 0 + (bodyC q).length ≤ (bodyC zeroBody).length ∧ setAll (bodyC zeroBody) 0 (bodyC q) = bodyC q ∧ (Tryz.prog.info? 32).map (·.size) = some (bodyC q).length) := Lib.hid fun q hq => ⟨by rw [bodyC_length hq, bodyC_length zero_wf]; omega, setAll_all (by rw [bodyC_length hq, bodyC_length zero_wf]), by rw [bodyC_length hq]; exact Tryz.is32⟩
  have HC0 := Lib.hid (h.below ((Below.refl _ _).alloc (Nat.le_refl _) (.cells (bodyC zeroBody).toArray 32)))
  have C1 : Hid (∀ W, CtS W lo g s → Calls Tryz.prog 104 #[.pointer (some ⟨g, 0, none⟩)] W fun E w' => E = .returned (.agg (bodyC ({ zeroBody with view := v } : MBody)).toArray) ∧ CtS w' lo g s1 ∧ Hid (W.grownBy w' (some g))) := Lib.hid (fun W hW => by have h1 := cutView_ms _ _ _ _ hW; rw [e1] at h1; exact h1)
  have C2 : Hid (∀ W, CtS W lo g s1 → Calls Tryz.prog 119 #[.pointer (some ⟨g, 0, none⟩)] W fun E w' => E = .returned (.agg (reqC r).toArray) ∧ CtS w' lo g s2 ∧ Hid (W.grownBy w' (some g))) := Lib.hid (fun W hW => by have h1 := cutRequest_ms hW; rw [e2] at h1; exact h1)
  have C3 : Hid (∀ W, CtS W lo g s2 → Calls Tryz.prog 46 #[.pointer (some ⟨g, 0, none⟩)] W fun E w' => E = .returned (.agg (u8s d).toArray) ∧ CtS w' lo g s3 ∧ Hid (W.grownBy w' (some g))) := Lib.hid (fun W hW => by have h1 := cutTag_ms hW; rw [e3] at h1; exact h1)
  clear h e1 e2 e3 hd hrt
  go_enter Tryz.func102, Tryz.ntmps102
  go_wp2_with (first | (go_at_call 104; (with_reducible refine (C1.out _ HC0.out).mono ?_); rintro E w1 ⟨rfl, hc1, hg1⟩; have D1 := Lib.hid (CtX.start HG.out hc1 hg1.out)) | ((with_reducible refine wpList_store_part ?_ 32 (.tmp 3) (.tmp 5) ?_ w1.heap.size 0 (bodyC zeroBody) (bodyC ({ zeroBody with view := v } : MBody)) (bodyC ({ zeroBody with view := v } : MBody)) 32 ?_ ?_ ?_ ?_ ?_ ?_ ?_ ?_); (· rfl); (· rfl); (· exact D1.out.msg); (· exact (HL.out _ ⟨rfl, rfl⟩).1); (· exact (HL.out _ ⟨rfl, rfl⟩).2.1); (· rfl); (· rfl); (· exact (HL.out _ ⟨rfl, rfl⟩).2.2); (· exact one_bodyC _); intro w2 G2; have D2 := Lib.hid (D1.out.put G2.out)) | (go_at_call 119; (with_reducible refine (C2.out _ D2.out.cut).mono ?_); rintro E w3 ⟨rfl, hc3, hg3⟩; have D3 := Lib.hid (D2.out.turn hg3.out hc3)) | ((with_reducible refine wpList_store_part ?_ 29 (.tmp 8) (.tmp 7) ?_ w1.heap.size 3 (bodyC ({ zeroBody with view := v } : MBody)) (bodyC ({ zeroBody with view := v, req := r } : MBody)) (reqC r) 32 ?_ ?_ ?_ ?_ ?_ ?_ ?_ ?_); (· rfl); (· rfl); (· exact D3.out.msg); (· exact HSR.out.1); (· exact HSR.out.2); (· rfl); (· rfl); (· exact HIR.out); (· exact one_reqC _); intro w4 G4; have D4 := Lib.hid (D3.out.put G4.out)) | (go_at_call 46; (with_reducible refine (C3.out _ D4.out.cut).mono ?_); rintro E w5 ⟨rfl, hc5, hg5⟩; have D5 := Lib.hid (D4.out.turn hg5.out hc5)) | ((with_reducible refine wpList_store_part ?_ 27 (.tmp 12) (.tmp 10) ?_ w1.heap.size 11 (bodyC ({ zeroBody with view := v, req := r } : MBody)) (bodyC ({ zeroBody with view := v, req := { r with tag := d } } : MBody)) (u8s d) 32 ?_ ?_ ?_ ?_ ?_ ?_ ?_ ?_); (· rfl); (· rfl); (· exact D5.out.msg); (· exact HSD.out.1); (· exact HSD.out.2); (· rfl); (· rfl); (· exact HJ.out); (· exact u8s_one _); intro w6 G6; have D6 := Lib.hid (D5.out.put G6.out)) | ((with_reducible refine wpList_load_midG ?_ 32 (.tmp 3) ?_ w1.heap.size 0 ?_ (bodyC ({ zeroBody with view := v, req := { r with tag := d } } : MBody)) _ ?_ Tryz.underlying32 ?_ ?_ ?_); (· rfl); (· rfl); (· rfl); (· exact range_of D6.out.msg); (· rfl); (· exact (HL.out _ ⟨HD.out, rfl⟩).2.2)) | ((with_reducible refine wpList_store_part ?_ 32 (.tmp 2) (.tmp 13) ?_ w.heap.size 0 (bodyC zeroBody) (bodyC ({ zeroBody with view := v, req := { r with tag := d } } : MBody)) (bodyC ({ zeroBody with view := v, req := { r with tag := d } } : MBody)) 32 ?_ ?_ ?_ ?_ ?_ ?_ ?_ ?_); (· rfl); (· rfl); (· exact D6.out.res); (· exact (HL.out _ ⟨HD.out, rfl⟩).1); (· exact (HL.out _ ⟨HD.out, rfl⟩).2.1); (· rfl); (· rfl); (· exact (HL.out _ ⟨HD.out, rfl⟩).2.2); (· exact one_bodyC _); intro w9 G9))
  exact bodyPost_ret (ret_range (cs := bodyC ({ zeroBody with view := v, req := { r with tag := d } } : MBody)) rfl rfl (range_of G9.out.1) Tryz.underlying32 rfl (HL.out _ ⟨HD.out, rfl⟩).2.2) rfl ⟨rfl, D6.out.cut.far G9.out.2 HG.out, Lib.hid (gb_new D6.out.gb G9.out.2 (Nat.le_refl _))⟩

theorem cutCheck_ms : CutsG 106 rdCheck := Cuts.gen (fun _ _ _ _ h => cutCheck_by _ _ _ _ h rfl rfl) fun _ => ⟨rfl, rfl⟩
theorem cutPrepare_ms : CutsG 102 rdPrepare := Cuts.gen (fun _ _ _ _ h => cutPrepare_by _ _ _ _ _ _ h rfl rfl rfl) fun _ => ⟨rfl, rfl⟩
theorem cutCommit_g : CutsG 103 rdCommit := Cuts.gen cutCommit_ms fun _ => ⟨rfl, rfl⟩
theorem cutView_g : CutsG 104 rdView := Cuts.gen cutView_ms fun _ => ⟨rfl, rfl⟩
end Go.Proofs.YtghjogneogkpoaaGreatDoor.Sh
