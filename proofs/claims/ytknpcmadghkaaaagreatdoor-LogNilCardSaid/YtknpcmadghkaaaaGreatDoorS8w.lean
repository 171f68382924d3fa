/- Laws and walks. -/
import Derived.Test.YtknpcmadghkaaaaGreatDoorS5w
import Derived.Deep.RegionHeld
import Derived.RegionTactic
import Derived.Test.YtknpcmadghkaaaaGreatDoorS7w
import Derived.Laws.OwnMore
import Derived.Deep.Cut
import Derived.Deep.RegionLaw
set_option maxHeartbeats 16000000
set_option maxRecDepth 100000

namespace Go.Proofs.YtknpcmadghkaaaaGreatDoor.Sh
open Go.RowKit
theorem wpAnyH_mono {P : Program} {md : Region.Mode} {ops : Array Oper} {Q : Exit -> Act -> World -> Prop} {S S' : World -> Prop} (hS : ∀ w, S' w -> S w) : ∀ (fuel : Nat) (listed : Array Bool) (a : Act) (w : World), wpAnyH P md ops Q S' fuel listed a w -> wpAnyH P md ops Q S fuel listed a w
 | 0, _, _, _, h => h
 | fuel + 1, _, _, _, h => ⟨h.1, fun i hi => wpOp_mono (fun a' w' h' => ⟨hS _ h'.1, wpAnyH_mono hS fuel _ a' w' h'.2⟩) (h.2 i hi)⟩
theorem wpAnyH_next {P : Program} {md : Region.Mode} {ops : Array Oper} {Q : Exit -> Act -> World -> Prop} {w0 w1 : World} (hb : Below w0.heap.size w0 w1) {fuel : Nat} {listed : Array Bool} {a : Act}
  (h : wpAnyH P md ops Q (fun W => Below w1.heap.size w1 W) fuel listed a w1) : wpAnyH P md ops Q (fun W => Below w0.heap.size w0 W) fuel listed a w1 :=
 wpAnyH_mono (fun _ h => hb.trans (h.mono hb.size)) _ _ _ _ h
open Go.RowKit
theorem wp_append_gb {w : World} {o : Oper} {a : Act} {K : Act -> World -> Prop} {Q : Exit -> Act -> World -> Prop} (s x : Operand)
  (ho : o.op = Op.call { callee := Callee.builtin Builtin.append, args := #[s, x], argTypes := #[23, 23] })
  (B n m c : Nat) (v : Value) (A : Option Addr) (xs bs : List UInt8) (hs : a.eval s = v) (hx : a.eval x = .slice A m c)
  (hown : w.ownsRow B 5 1 v n (u8s xs)) {Pr : Nat -> Prop} (hr : Rd Pr w A m bs) (hsl : Sl A m c) (hB : B <= w.heap.size) (hm : n + m <= 140737488355328)
  (h : ∀ A' c' w', Hid (w'.ownsRow B 5 1 (.slice A' (n + m) c') (n + m) (u8s (xs ++ bs)) /\ Sl A' (n + m) c') -> Hid (w.grownBy w' v.ownBlock) -> K (a.put o.dst (.slice A' (n + m) c')) w') :
  o.wp Tryz.prog a w K Q := by
 obtain ⟨i0, hi, hz0, hz1, hz2⟩ := info_parts Tryz.info5
 rcases A with _ | ad
 ·obtain ⟨rfl, rfl⟩ := hsl.1 rfl
  have hbs : bs = [] := List.eq_nil_of_length_eq_zero hr.1
  subst hbs
  obtain ⟨A', c', rfl, hsl'⟩ := own_shape hown
  have hrun := run_append_owned_none (P := Tryz.prog) w B 23 o.type 5 i0 1 Tryz.underlying23 hi _ n _ hown
  unfold Oper.wp
  simp [execOp, ho, resolve, invoke, builtin, hs, hx, hrun, Result.andThen]
  have h2 := h A' c' w ⟨by simpa using hown, by simpa using hsl'⟩ (World.grownBy.refl w _)
  rw [Nat.add_zero] at h2
  exact h2
 ·have hl : (u8s bs).length = m * 1 := by rw [u8s_length, hr.1]; omega
  refine wp_append_own w s x 23 ho B 5 i0 (.int .u8 0) 1 1 Tryz.underlying23 hi hz0 hz1 hz2 rfl (by decide) v n _ hs hown ad m c (u8s bs) hx hl ?_ (u8s_one bs) (by unfold maxLen; omega) (by omega) hB ?_
  ·intro j u hu
   have hp : 0 < (u8s bs).length := by have := (List.getElem?_eq_some_iff.1 hu).1; omega
   obtain ⟨ad2, had, hc⟩ := hr.src hp
   injection had with had
   subst had
   exact hc j u hu
  ·intro v' w' hv' hg' _
   obtain ⟨A', c', rfl, hsl'⟩ := own_shape hv'
   exact h A' c' w' ⟨by rw [show u8s (xs ++ bs) = u8s xs ++ u8s bs by simp [u8s]]; exact hv', hsl'⟩ hg'
theorem wpList_append_gb {w : World} {ops : Array Oper} {rest : List Oper} {o : Oper} {a : Act} {Q : Exit -> Act -> World -> Prop} (hgd : o.guard = none) (s x : Operand)
  (ho : o.op = Op.call { callee := Callee.builtin Builtin.append, args := #[s, x], argTypes := #[23, 23] })
  (B n m c : Nat) (v : Value) (A : Option Addr) (xs bs : List UInt8) (hs : a.eval s = v) (hx : a.eval x = .slice A m c)
  (hown : w.ownsRow B 5 1 v n (u8s xs)) {Pr : Nat -> Prop} (hr : Rd Pr w A m bs) (hsl : Sl A m c) (hB : B <= w.heap.size) (hm : n + m <= 140737488355328)
  (h : ∀ A' c' w', Hid (w'.ownsRow B 5 1 (.slice A' (n + m) c') (n + m) (u8s (xs ++ bs)) /\ Sl A' (n + m) c') -> Hid (w.grownBy w' v.ownBlock) -> wpList Tryz.prog ops Q rest (a.put o.dst (.slice A' (n + m) c')) w') :
  wpList Tryz.prog ops Q (o :: rest) a w :=
 wpList_plain hgd fun _ hK => wp_append_gb s x ho B n m c v A xs bs hs hx hown hr hsl hB hm fun A' c' w' h1 h2 => hK _ _ (h A' c' w' h1 h2)
theorem step_append_gb {w : World} {ops : Array Oper} {o : Oper} {a : Act} {K : Act -> World -> Prop} {Q : Exit -> Act -> World -> Prop} {E : Prop} (hgd : o.guard = none) (s x : Operand)
  (ho : o.op = Op.call { callee := Callee.builtin Builtin.append, args := #[s, x], argTypes := #[23, 23] })
  (B n m c : Nat) (v : Value) (A : Option Addr) (xs bs : List UInt8) (hs : a.eval s = v) (hx : a.eval x = .slice A m c)
  (hown : w.ownsRow B 5 1 v n (u8s xs)) {Pr : Nat -> Prop} (hr : Rd Pr w A m bs) (hsl : Sl A m c) (hB : B <= w.heap.size) (hm : n + m <= 140737488355328)
  (h : ∀ A' c' w', Hid (w'.ownsRow B 5 1 (.slice A' (n + m) c') (n + m) (u8s (xs ++ bs)) /\ Sl A' (n + m) c') -> Hid (w.grownBy w' v.ownBlock) -> K (a.put o.dst (.slice A' (n + m) c')) w') :
  if Region.wanted o (yielded ops a.tmps) = true then Oper.wp Tryz.prog o a w K Q else E := by
 have hw : Region.wanted o (yielded ops a.tmps) = true := by simp [Region.wanted, hgd]
 rw [if_pos hw]
 exact wp_append_gb s x ho B n m c v A xs bs hs hx hown hr hsl hB hm h
open Go.RowKit
theorem own_at (w w3 : World) (h : w.heap.size <= w3.heap.size) : (w3.alloc (.cells #[] 5)).ownsRow w.heap.size 5 1 (.slice (some ⟨w3.heap.size, 0, none⟩) 0 0) 0 (u8s []) :=
 World.ownsRow_lit w3 #[] 0 h (Nat.zero_le _) rfl
theorem there_grownO {w w' : World} {b o n : Nat} {row : Option Nat} (h : w.there b o n) (hb : w.grownBy w' row) (hne : ∀ k, row = some k -> b ≠ k) : w'.there b o n := fun j hj => by
 obtain ⟨u, hu⟩ := Option.isSome_iff_exists.1 (h j hj).1
 have hlt := World.block_lt_of_cell? w _ hu
 exact ⟨by rw [hb.cell hu (fun e => hne b e.symm rfl)]; rfl, by rw [World.frozen?_of_block (w := w) (hb.block b hlt (fun e => hne b e.symm rfl))]; exact (h j hj).2⟩
def NtAt (L : Nat) (sh : List UInt8) (j c : Nat) (A : Option Addr) (w wr : World) : Prop :=
 wr.ownsRow w.heap.size 5 1 (.slice A (L + j) c) (L + j) (u8s (sh ++ List.replicate j 0)) /\ Sl A (L + j) c /\ Below w.heap.size w wr
theorem NtAt.zero {L c : Nat} {sh : List UInt8} {A : Option Addr} {w wr : World} (h1 : wr.ownsRow w.heap.size 5 1 (.slice A L c) L (u8s sh)) (h2 : Sl A L c) (h3 : Below w.heap.size w wr) : NtAt L sh 0 c A w wr :=
 ⟨by simpa using h1, h2, h3⟩
theorem with_by (key sh dg fk : List UInt8) (m : UInt8) (L : Nat) (A : Option Addr) (n c : Nat) (w : World) (hn : n < 100000000) (hdg : dg.length = 32) (hLs : sh.length = L) (hL : L <= 64) (hfk : fk = sh ++ List.replicate (64 - L) 0)
  (hr : Rd (fun _ => True) w A n key) (hs : Sl A n c) (hk : KIs w) (h0 : 0 < w.heap.size) (hc : n <= 64 /\ sh = key \/ 64 < n /\ sh = dg)
  (S : ∀ (A : Option Addr) (c : Nat) (w : World), Rd (fun _ => True) w A n key -> Sl A n c -> KIs w -> 0 < w.heap.size -> Calls Tryz.prog 116 #[.slice A n c] w fun E w' => E = .returned (.agg (u8s dg).toArray) /\ Below w.heap.size w w') :
  Calls Tryz.prog 117 #[.slice A n c, .int .u8 (m.toNat : Int)] w fun E w' => ∃ g c', E = .returned (.slice (some ⟨g, 0, none⟩) 64 c') /\ Hid (w'.ownsRow w.heap.size 5 1 (.slice (some ⟨g, 0, none⟩) 64 c') 64 (u8s (maskOf m fk))) /\ Below w.heap.size w w' := by
 have HK := iq hk
 have HR := iq hr
 have HS := iq hs
 have SS := iq S
 have HFK := iq hfk
 have HDG : Hid (dg.length = 32 /\ (u8s dg).length = 32) := iq ⟨hdg, by rw [u8s_length, hdg]⟩
 have HID : Hid ((Tryz.prog.info? 30).map (·.size) = some (u8s dg).length) := iq (by rw [HDG.out.2]; exact Tryz.size30)
 have HLS := iq hLs
 have HN := iq HR.out.1
 clear hk hr hs S hdg hfk hLs
 have H0 : Hid ((w.alloc (.cells #[] 5)).ownsRow w.heap.size 5 1 (.slice (some ⟨w.heap.size, 0, none⟩) 0 0) 0 (u8s []) /\ Below w.heap.size w (w.alloc (.cells #[] 5)) /\ w.heap.size < (w.alloc (.cells #[] 5)).heap.size) := iq ⟨own_at w w (Nat.le_refl _), bl.alloc (Nat.le_refl _) _, by simp⟩
 go_enter Tryz.func117, Tryz.ntmps117
 go_upto_if 13 with (first
  | (at_builtin; refine wpList_append_rd (w0 := w) rfl (.tmp 8) (.tmp 9) rfl w.heap.size 0 n c _ A [] key rfl rfl H0.out.1 (HR.out.below H0.out.2.1 (fun _ h _ => h)) HS.out H0.out.2.1 (Nat.le_of_lt H0.out.2.2) (by omega) ?_; intro A1 c1 w1 h1 hb1; rw [Nat.zero_add] at h1 ⊢; rw [List.nil_append] at h1; have H1 := h1; have HB1 := iq hb1; clear h1 hb1))
 try simp only [Act.put]
 go_cut [5] from 8 (fun s5 wx => ∃ (A5 : Option Addr) (c5 : Nat), s5 = .slice A5 L c5 /\ Hid (NtAt L sh 0 c5 A5 w wx))
 case first =>
  rcases hc with ⟨hlen, rfl⟩ | ⟨hlen, rfl⟩
  ·obtain rfl : n = L := by have := HN.out; have := HLS.out; omega
   go_wp2_with (fail)
   go_meet
   case rel => exact ⟨A1, c1, rfl, iq (NtAt.zero H1.out.1 H1.out.2 HB1.out)⟩
  ·obtain rfl : L = 32 := by have := HDG.out.1; have := HLS.out; omega
   go_wp2_with (first
    | (go_at_call 116; (with_reducible refine (SS.out A c w1 (HR.out.below HB1.out (fun _ h _ => h)) HS.out (HK.out.below HB1.out h0) (Nat.lt_of_lt_of_le h0 HB1.out.size)).mono ?_); rintro E w2 ⟨rfl, hb2⟩; have HB2 := iq (HB1.out.trans (hb2.mono HB1.out.size)); clear hb2)
    | ((with_reducible refine wpList_store_fresh ?_ 30 (.tmp 6) (.tmp 15) ?_ (u8s sh) ?_ ?_ ?_ ?_ ?_ ?_); rfl; rfl; rfl; rfl; (· rw [HDG.out.2]; rfl); exact HID.out; exact u8s_one _; intro w3 H3; have HB3 := iq (HB2.out.trans (H3.out.1.mono HB2.out.size)); have HR3 : Hid (Rd (fun _ => True) w3 (some ⟨w2.heap.size, 0, none⟩) 32 sh) := iq (Rd.of_range H3.out.2.1 H3.out.2.2.2 trivial (fun _ _ h => h) HDG.out.1))
    | (at_builtin; refine wpList_append_rd (w0 := w) rfl (.tmp 16) (.tmp 17) rfl w.heap.size 0 32 32 _ (some ⟨w2.heap.size, 0, none⟩) [] sh rfl rfl (own_at w w3 HB3.out.size) (HR3.out.below (bl.alloc (Nat.le_refl _) _) (fun _ h _ => h)) ⟨(fun e => by cases e), Nat.le_refl _, by omega⟩ (HB3.out.alloc HB3.out.size _) (by have := HB3.out.size; simp; omega) (by omega) ?_; intro A5 c5 w5 h5 hb5; rw [Nat.zero_add] at h5 ⊢; rw [List.nil_append] at h5; have H5 : Hid (NtAt 32 sh 0 c5 A5 w w5) := iq (NtAt.zero h5.out.1 h5.out.2 hb5); clear h5 hb5)
    | fail)
   go_meet
   case rel => exact ⟨A5, c5, rfl, H5⟩
 case rest =>
  obtain ⟨A5, c5, rfl, H5⟩ := hcut
  clear hc H1 HB1 H0 SS HID HDG
  go_wp2_with (fail)
  go_loopw [5] (fun v5 wr => ∃ (j c : Nat) (A : Option Addr), L + j <= 64 /\ v5 = .slice A (L + j) c /\ Hid (NtAt L sh j c A w wr)) (fun v5 _ => 64 - lenOf v5)
  case atStart => exact ⟨0, c5, A5, by omega, rfl, H5⟩
  case round =>
   clear H5
   obtain ⟨j, c6, A6, hj64, rfl, HM⟩ := hrel
   by_cases hgo : L + j < 64
   ·go_wp2_with (at_builtin; refine wpList_append_byte_own (w0 := w) rfl (.tmp 22) (.tmp 23) rfl w.heap.size (L + j) _ (sh ++ List.replicate j 0) _ 0 rfl rfl HM.out.1 HM.out.2.2 HM.out.2.2.size rfl (by omega) ?_; intro A7 c7 w7 h7 hb7; have H7 : Hid (NtAt L sh (j + 1) c7 A7 w w7) := iq ⟨by rw [List.replicate_succ', <- List.append_assoc]; exact h7.out.1, h7.out.2, hb7⟩; clear h7 hb7)
    go_roundw
    case measure => simp only [lenOf]; omega
    case rel => exact ⟨j + 1, c7, A7, by omega, rfl, H7⟩
   ·obtain ⟨g, hA⟩ : ∃ g, A6 = some ⟨g, 0, none⟩ := by
     rcases HM.out.1.2 with ⟨_, h⟩ | ⟨g, cap, cur, hv, _⟩
     ·omega
     ·injection hv with h1 h2 h3
      exact ⟨g, h1⟩
    subst hA
    have e64 : L + j = 64 := by omega
    have HF : Hid (wr.ownsRow w.heap.size 5 1 (.slice (some ⟨g, 0, none⟩) 64 c6) 64 (u8s fk) /\ Below w.heap.size w wr) := iq ⟨by
     have := HM.out.1
     rw [HFK.out, show 64 - L = j by omega]
     rwa [e64] at this, HM.out.2.2⟩
    have HFL : Hid (fk.length = 64) := iq (by have := HF.out.1.1; rwa [u8s_length] at this)
    rw [e64]
    clear HM e64 hgo hj64
    go_wp2_with (fail)
    go_loopw [7] (fun v7 wr => ∃ i : Nat, i <= 64 /\ v7 = .int .i64 i /\ Hid (wr.ownsRow w.heap.size 5 1 (.slice (some ⟨g, 0, none⟩) 64 c6) 64 (u8s (maskOf m (fk.take i) ++ fk.drop i)) /\ Below w.heap.size w wr)) (fun v7 _ => 64 - (intOf v7).toNat)
    case atStart => exact ⟨0, by omega, rfl, iq (by simpa [maskOf] using HF.out)⟩
    case round =>
     clear HF
     obtain ⟨i, hi, rfl, HF⟩ := hrel
     by_cases hi64 : i < 64
     ·have HLT : Hid (i < fk.length) := iq (by rw [HFL.out]; exact hi64)
      have hml : (maskOf m (fk.take i) ++ fk.drop i).length = 64 := by simp [maskOf_length, HFL.out]; omega
      have hc := HF.out.1.cells (g := g) rfl i (.int .u8 ((fk.getD i 0).toNat : Int)) (by rw [u8s_at _ _ (by rw [hml]; exact hi64), mask_at m fk i HLT.out])
      rw [add_lit, Nat.zero_add] at hc
      have hf := HF.out.1.frozenAt i
      have HS2 := iq (mask_set m fk i HLT.out)
      clear hml
      generalize fk.getD i 0 = x at hc HS2
      go_wp2_with (fail)
      go_roundw
      case measure => simp [intOf]; omega
      case rel =>
       refine ⟨i + 1, by omega, by go_num, iq ?_⟩
       have h2 := HF.out.1.stored i (.int .u8 ((x ^^^ m).toNat : Int))
       rw [u8s_set, HS2.out] at h2
       rw [b8_xor]
       exact ⟨h2.1, HF.out.2.grown h2.2 HF.out.2.size (fun k hk => by have := (HF.out.1.lt k (by rw [<- hk]; rfl)).1; exact this)⟩
     ·obtain rfl : i = 64 := by omega
      have HE : Hid (maskOf m (fk.take 64) ++ fk.drop 64 = maskOf m fk) := iq (by rw [List.take_of_length_le (by rw [HFL.out]; exact Nat.le_refl _), List.drop_of_length_le (by rw [HFL.out]; exact Nat.le_refl _), List.append_nil])
      rw [HE.out] at HF
      go_wp2_with (fail)
      go_ret
      exact ⟨g, c6, rfl, iq HF.out.1, HF.out.2⟩
theorem with_any {Pr : Nat -> Prop} (key : List UInt8) (m : UInt8) (A : Option Addr) (n c : Nat) (w : World) (hn : n < 100000000) (hr : Rd Pr w A n key) (hs : Sl A n c) (hk : KIs w) (h0 : 0 < w.heap.size) :
  Calls Tryz.prog 117 #[.slice A n c, .int .u8 (m.toNat : Int)] w fun E w' => ∃ g c', E = .returned (.slice (some ⟨g, 0, none⟩) 64 c') /\ Hid (w'.ownsRow w.heap.size 5 1 (.slice (some ⟨g, 0, none⟩) 64 c') 64 (u8s (maskOf m (filledOf key)))) /\ Below w.heap.size w w' := by
 obtain rfl : key.length = n := hr.1
 refine with_by key (shortOf key) (sumOf key) (filledOf key) m (shortOf key).length A key.length c w hn (sumOf_length _) rfl (shortOf_length key) rfl (hr.mono fun _ _ _ => trivial) hs hk h0 ?_ fun A c w hr hs hk h0 => refSum_any key A c w hr hs hn hk h0
 by_cases h64 : 64 < key.length
 ·exact .inr ⟨h64, if_pos h64⟩
 ·exact .inl ⟨by omega, if_neg h64⟩
def OuAt (g5 : Nat) (d : List UInt8) (w wr : World) : Prop := Below w.heap.size w wr /\ wr.rangeAt g5 0 (u8s d) /\ wr.there w.heap.size 0 32 /\ g5 < wr.heap.size /\ w.heap.size < wr.heap.size
theorem OuAt.next {g5 : Nat} {d : List UInt8} {w wr w' : World} (H : OuAt g5 d w wr) (hb : Below wr.heap.size wr w') : OuAt g5 d w w' :=
 ⟨H.1.trans (hb.mono H.1.size), rangeAt_below H.2.1 hb H.2.2.2.1, there_below H.2.2.1 hb H.2.2.2.2, Nat.lt_of_lt_of_le H.2.2.2.1 hb.size, Nat.lt_of_lt_of_le H.2.2.2.2 hb.size⟩
theorem OuAt.drewN {g5 : Nat} {d : List UInt8} {w wr : World} (H : OuAt g5 d w wr) (q : Nat) : OuAt g5 d w (wr.drewN q) := ⟨below_drewN H.1 q, H.2⟩
theorem OuAt.grown {g5 B k : Nat} {d : List UInt8} {v : Value} {xs : List Value} {w wr w1 w' : World} (H : OuAt g5 d w wr) (hb : Below wr.heap.size wr w1) (ho : w1.ownsRow B 5 1 v k xs) (hB : wr.heap.size <= B) (hg : w1.grownBy w' v.ownBlock) : OuAt g5 d w w' :=
 H.next (hb.grown hg hb.size fun k hk => by have := (ho.lt k hk).1; omega)
theorem refOf_by (key b k1 k2 d out : List UInt8) (A : Option Addr) (n c : Nat) (A' : Option Addr) (n' c' : Nat) (w : World) (hn' : n' < 1000000) (hd : d.length = 32) (ho : (u8s out).length = 32)
  (hr : Rd (fun _ => True) w A n key) (hr' : Rd (fun _ => True) w A' n' b) (hs' : Sl A' n' c') (hk : KIs w) (h0 : 0 < w.heap.size)
  (W1 : ∀ w : World, Rd (fun _ => True) w A n key -> KIs w -> 0 < w.heap.size -> Calls Tryz.prog 117 #[.slice A n c, .int .u8 54] w fun E w' => ∃ g c', E = .returned (.slice (some ⟨g, 0, none⟩) 64 c') /\ Hid (w'.ownsRow w.heap.size 5 1 (.slice (some ⟨g, 0, none⟩) 64 c') 64 (u8s k1)) /\ Below w.heap.size w w')
  (W2 : ∀ w : World, Rd (fun _ => True) w A n key -> KIs w -> 0 < w.heap.size -> Calls Tryz.prog 117 #[.slice A n c, .int .u8 92] w fun E w' => ∃ g c', E = .returned (.slice (some ⟨g, 0, none⟩) 64 c') /\ Hid (w'.ownsRow w.heap.size 5 1 (.slice (some ⟨g, 0, none⟩) 64 c') 64 (u8s k2)) /\ Below w.heap.size w w')
  (S1 : ∀ (A : Option Addr) (c : Nat) (w : World), Rd (fun _ => True) w A (64 + n') (k1 ++ b) -> Sl A (64 + n') c -> KIs w -> 0 < w.heap.size -> Calls Tryz.prog 116 #[.slice A (64 + n') c] w fun E w' => E = .returned (.agg (u8s d).toArray) /\ Below w.heap.size w w')
  (S2 : ∀ (A : Option Addr) (c : Nat) (w : World), Rd (fun _ => True) w A 96 (k2 ++ d) -> Sl A 96 c -> KIs w -> 0 < w.heap.size -> Calls Tryz.prog 116 #[.slice A 96 c] w fun E w' => E = .returned (.agg (u8s out).toArray) /\ Below w.heap.size w w') :
  Calls Tryz.prog 82 #[.slice A n c, .slice A' n' c'] w fun E w' => E = .returned (.agg (u8s out).toArray) /\ Below w.heap.size w w' := by
 have HK := iq hk
 have HR := iq hr
 have HR' := iq hr'
 have HS' := iq hs'
 have WA := iq W1
 have WB := iq W2
 have SA := iq S1
 have SB := iq S2
 have HO := iq ho
 have HD : Hid (d.length = 32 /\ (u8s d).length = 32) := iq ⟨hd, by rw [u8s_length, hd]⟩
 have HID : Hid ((Tryz.prog.info? 30).map (·.size) = some (u8s d).length) := iq (by rw [HD.out.2]; exact Tryz.size30)
 have HIO : Hid ((Tryz.prog.info? 30).map (·.size) = some (u8s out).length) := iq (by rw [HO.out]; exact Tryz.size30)
 clear hk hr hr' hs' W1 W2 S1 S2 hd ho
 have HA0 : Hid (Below w.heap.size w (w.alloc (.cells (List.replicate 32 (Value.int .u8 0)).toArray 30)) /\ (w.alloc (.cells (List.replicate 32 (Value.int .u8 0)).toArray 30)).there w.heap.size 0 32) := iq ⟨bl.alloc (Nat.le_refl _) _, there_new w _ _⟩
 go_enter Tryz.func82, Tryz.ntmps82
 go_upto_region 2 with (first
  | (go_at_call 117; refine (WA.out _ (HR.out.below HA0.out.1 (fun _ h _ => h)) (HK.out.below HA0.out.1 h0) (by simp)).mono ?_; rintro E w1 ⟨g1, c1, rfl, h1, hb1⟩; have H1 : Hid (w1.ownsRow (w.heap.size + 1) 5 1 (.slice (some ⟨g1, 0, none⟩) 64 c1) 64 (u8s k1)) := iq (by have := h1.out; rwa [show (w.alloc (.cells (List.replicate 32 (Value.int .u8 0)).toArray 30)).heap.size = w.heap.size + 1 by simp] at this); have HB1 : Hid (Below w.heap.size w w1 /\ w1.there w.heap.size 0 32 /\ w.heap.size + 1 <= w1.heap.size) := iq ⟨HA0.out.1.trans (hb1.mono (by simp)), there_below HA0.out.2 hb1 (by simp), by have := hb1.size; simpa using this⟩; clear h1 hb1)
  | (at_builtin; refine wpList_append_gb rfl (.tmp 7) (.tmp 8) rfl (w.heap.size + 1) 64 n' c' _ A' k1 b rfl rfl H1.out (HR'.out.below HB1.out.1 (fun _ h _ => h)) HS'.out HB1.out.2.2 (by omega) ?_; intro A2 c2 w2 h2 hg2; have HB2 : Hid (Below w.heap.size w w2 /\ w2.there w.heap.size 0 32 /\ w.heap.size + 1 <= w2.heap.size) := iq ⟨HB1.out.1.grown hg2.out HB1.out.1.size (fun k hk => by have := (H1.out.lt k hk).1; omega), there_grownO HB1.out.2.1 hg2.out (fun k hk => by have := (H1.out.lt k hk).1; omega), Nat.le_trans HB1.out.2.2 hg2.out.size⟩; have HR2 : Hid (Rd (fun _ => True) w2 A2 (64 + n') (k1 ++ b) /\ Sl A2 (64 + n') c2) := iq ⟨(Rd.of_own h2.out.1).mono fun _ _ _ => trivial, h2.out.2⟩; clear h2 hg2)
  | (go_at_call 116; refine (SA.out A2 c2 w2 HR2.out.1 HR2.out.2 (HK.out.below HB2.out.1 h0) (Nat.lt_of_lt_of_le h0 HB2.out.1.size)).mono ?_; rintro E w3 ⟨rfl, hb3⟩; have HB3 : Hid (Below w.heap.size w w3 /\ w3.there w.heap.size 0 32 /\ w.heap.size + 1 <= w3.heap.size) := iq ⟨HB2.out.1.trans (hb3.mono HB2.out.1.size), there_below HB2.out.2.1 hb3 (by have := HB2.out.2.2; omega), Nat.le_trans HB2.out.2.2 hb3.size⟩; clear hb3)
  | ((with_reducible refine wpList_store_fresh ?_ 30 (.tmp 5) (.tmp 10) ?_ (u8s d) ?_ ?_ ?_ ?_ ?_ ?_); rfl; rfl; rfl; rfl; (· rw [HD.out.2]; rfl); exact HID.out; exact u8s_one _; intro w4 H4; have HU4 : Hid (OuAt w3.heap.size d w w4) := iq ⟨HB3.out.1.trans (H4.out.1.mono HB3.out.1.size), H4.out.2.1, there_below HB3.out.2.1 H4.out.1 (by have := HB3.out.2.2; omega), H4.out.2.2.2, by have := HB3.out.2.2; have := H4.out.2.2.2; omega⟩))
 have HU : Hid (OuAt w3.heap.size d w (w4.drewN 1)) := iq (HU4.out.drewN 1)
 clear H4 HB3 HB2 HB1 H1 HA0 HR2 HU4
 refine wp_region_any (by kernel_rfl) ?_
 change wpAny _ _ _ _ _ _ _ (w4.drewN 1)
 refine wpAny_take (i := 0) (v := .slice A n c) rfl (by kernel_rfl) (by kernel_rfl) (by kernel_rfl) (fun _ _ _ => id) (Or.inl ⟨by rfl, fun w => by go_simp⟩) ?_
 simp only [Act.put]
 refine wpAny_take (i := 2) (v := .slice (some ⟨w3.heap.size, 0, none⟩) 32 32) rfl (by kernel_rfl) (by kernel_rfl) (by kernel_rfl) (fun _ _ _ => id) (Or.inl ⟨by rfl, fun w => by go_simp⟩) ?_
 simp only [Act.put, List.setIfInBounds_toArray]
 refine wpAny_ready (rs := [1]) (by kernel_rfl) (by simp) ?_
 refine AllReady.cons rfl (fun K hK => ?_) AllReady.nil
 (go_simp; go_at_call 117; refine (WB.out (w4.drewN 1) (HR.out.below HU.out.1 (fun _ h _ => h)) (HK.out.below HU.out.1 h0) (Nat.lt_of_lt_of_le h0 HU.out.1.size)).mono ?_; rintro E w5 ⟨g5, c5, rfl, h5, hb5⟩; have H5 := h5; have HB5 := iq hb5; have HU5 := iq (HU.out.next hb5); clear h5 hb5; refine hK _ _ ?_; clear hK K)
 refine wpAny_ready (rs := [3]) (by kernel_rfl) (by simp) ?_
 refine AllReady.cons rfl (fun K hK => ?_) AllReady.nil
 (refine step_append_gb rfl (.tmp 12) (.tmp 13) rfl (w4.drewN 1).heap.size 64 32 32 _ (some ⟨w3.heap.size, 0, none⟩) k2 d rfl rfl H5.out (Rd.of_range (P := fun _ => True) HU5.out.2.1 HU5.out.2.2.2.1 trivial (fun _ _ h => h) HD.out.1) ⟨(fun e => by cases e), Nat.le_refl _, by omega⟩ HB5.out.size (by omega) ?_; intro A6 c6 w6 h6 hg6; have HU6 := iq (HU.out.grown HB5.out H5.out (Nat.le_refl _) hg6.out); have HR6 : Hid (Rd (fun _ => True) w6 A6 96 (k2 ++ d) /\ Sl A6 96 c6) := iq ⟨(Rd.of_own h6.out.1).mono fun _ _ _ => trivial, h6.out.2⟩; clear h6 hg6; refine hK _ _ ?_; clear hK K)
 simp only [Act.put]
 refine wpAny_ready (rs := [4]) (by kernel_rfl) (by simp) ?_
 refine AllReady.cons rfl (fun K hK => ?_) AllReady.nil
 (go_simp; go_at_call 116; refine (SB.out A6 c6 w6 HR6.out.1 HR6.out.2 (HK.out.below HU6.out.1 h0) (Nat.lt_of_lt_of_le h0 HU6.out.1.size)).mono ?_; rintro E w7 ⟨rfl, hb7⟩; have HU7 := iq (HU6.out.next hb7); clear hb7; refine hK _ _ ?_; clear hK K)
 have HTH : Hid (w7.there w.heap.size 0 (u8s out).length) := iq (by rw [HO.out]; exact HU7.out.2.2.1)
 refine wpAny_ready (rs := [5]) (by kernel_rfl) (by simp) ?_
 refine AllReady.cons rfl (fun K hK => ?_) AllReady.nil
 (refine step_store_cells rfl 30 (.tmp 4) (.tmp 15) rfl w.heap.size 0 (u8s out) rfl rfl HTH.out HIO.out (u8s_one _) ?_; refine hK _ _ ?_; clear hK K)
 refine wpAny_done (by kernel_rfl) ?_ _
 go_wp2
 exact bodyPost_ret (ret_range (cs := u8s out) rfl rfl (World.rangeAt_setCells_same _ _ _ (u8s out) HTH.out) Tryz.underlying30 rfl HIO.out) rfl ⟨rfl, below_setCells (Nat.le_refl _) _ _ _ HU7.out.1⟩
theorem refOf_any {Pk Pb : Nat -> Prop} (key b : List UInt8) (A : Option Addr) (n c : Nat) (A' : Option Addr) (n' c' : Nat) (w : World) (hn : n < 100000000) (hn' : n' < 1000000) (hr : Rd Pk w A n key) (hs : Sl A n c) (hr' : Rd Pb w A' n' b) (hs' : Sl A' n' c') (hk : KIs w) (h0 : 0 < w.heap.size) :
  Calls Tryz.prog 82 #[.slice A n c, .slice A' n' c'] w fun E w' => E = .returned (.agg (u8s (hmac key b)).toArray) /\ Below w.heap.size w w' := by
 obtain rfl : b.length = n' := hr'.1
 refine refOf_by key b (maskOf 0x36 (filledOf key)) (maskOf 0x5c (filledOf key)) (sumOf (maskOf 0x36 (filledOf key) ++ b)) (hmac key b) A n c A' b.length c' w hn' (sumOf_length _) (by rw [u8s_length, hmac_length]) (hr.mono fun _ _ _ => trivial) (hr'.mono fun _ _ _ => trivial) hs' hk h0
  (fun w hr hk h0 => with_any key 0x36 A n c w hn hr hs hk h0) (fun w hr hk h0 => with_any key 0x5c A n c w hn hr hs hk h0) (fun A c w hr hs hk h0 => ?_) (fun A c w hr hs hk h0 => ?_)
 ·have e : (maskOf 0x36 (filledOf key) ++ b).length = 64 + b.length := by rw [List.length_append, maskOf_length, filledOf_length]
  have := refSum_any (maskOf 0x36 (filledOf key) ++ b) A c w (by rw [e]; exact hr) (by rw [e]; exact hs) (by rw [e]; omega) hk h0
  rwa [e] at this
 ·have e : (maskOf 0x5c (filledOf key) ++ sumOf (maskOf 0x36 (filledOf key) ++ b)).length = 96 := by rw [List.length_append, maskOf_length, filledOf_length, sumOf_length]
  have := refSum_any (maskOf 0x5c (filledOf key) ++ sumOf (maskOf 0x36 (filledOf key) ++ b)) A c w (by rw [e]; exact hr) (by rw [e]; exact hs) (by rw [e]; omega) hk h0
  rwa [e] at this
open Go.RowKit
theorem refKey_no (s : ByteArray) (i most : Int) (w : World) (h : i < 1 \/ most < i) :
  Calls Tryz.prog 118 #[.string s, .int .i64 i, .int .i64 most] w fun E w' => E = .returned (.slice none 0 0) /\ w = w' := by
 by_cases h1 : i < 1
 ·clear h
  go_enter Tryz.func118, Tryz.ntmps118
  go_wp2
  go_ret
  exact ⟨rfl, rfl⟩
 ·have h2 : most < i := by omega
  clear h
  go_enter Tryz.func118, Tryz.ntmps118
  go_wp2
  go_ret
  exact ⟨rfl, rfl⟩
theorem refKey_by (s : ByteArray) (name d : List UInt8) (i : Nat) (most : Int) (w : World) (hs : s.data.toList = name) (hm : s.size <= 1000) (h1 : 1 <= i) (h2 : (i : Int) <= most) (h3 : most <= 1000000) (hd : d.length = 32) (hk : KIs w) (h0 : 0 < w.heap.size)
  (W8 : ∀ (A : Option Addr) (c : Nat) (w : World), Rd (fun _ => True) w A s.size name -> Sl A s.size c -> Calls Tryz.prog 84 #[.slice A s.size c, .int .u64 i] w fun e w' => ∃ A' c', e = .returned (.slice A' (s.size + 8) c') /\ Hid (Rd (fun _ => True) w' A' (s.size + 8) (name ++ be 8 i) /\ Sl A' (s.size + 8) c') /\ Below w.heap.size w w')
  (S : ∀ (A : Option Addr) (c : Nat) (w : World), Rd (fun _ => True) w A (s.size + 8) (name ++ be 8 i) -> Sl A (s.size + 8) c -> KIs w -> 0 < w.heap.size -> Calls Tryz.prog 116 #[.slice A (s.size + 8) c] w fun E w' => E = .returned (.agg (u8s d).toArray) /\ Below w.heap.size w w') :
  Calls Tryz.prog 118 #[.string s, .int .i64 i, .int .i64 most] w fun E w' => ∃ A c, E = .returned (.slice A 32 c) /\ Hid (Rd (w.heap.size <= ·) w' A 32 d /\ Sl A 32 c) /\ Below w.heap.size w w' := by
 have HS := iq hs
 have HK := iq hk
 have HD := iq hd
 have WW := iq W8
 have SS := iq S
 have HD32 : Hid ((u8s d).length = 32) := iq (by rw [u8s_length, hd])
 have HID : Hid ((Tryz.prog.info? 30).map (·.size) = some (u8s d).length) := iq (by rw [HD32.out]; exact Tryz.size30)
 clear hs hk hd W8 S
 go_enter Tryz.func118, Tryz.ntmps118
 go_wp2_with (first
  | (refine wpList_str rfl (.tmp 15) rfl s name HS.out (by omega) rfl ?_; intro c1 w1 H1)
  | (go_at_call 84; refine (WW.out _ c1 w1 H1.out.2.1 H1.out.2.2.1).mono ?_; rintro E w2 ⟨A2, c2, rfl, H2, hb2⟩; have HB2 : Hid (Below w.heap.size w w2) := iq (H1.out.1.trans (hb2.mono H1.out.1.size)); clear hb2)
  | (go_at_call 116; refine (SS.out _ c2 w2 H2.out.1 H2.out.2 (HK.out.below HB2.out h0) (Nat.lt_of_lt_of_le h0 HB2.out.size)).mono ?_; rintro E w3 ⟨rfl, hb3⟩; have HB3 : Hid (Below w.heap.size w w3) := iq (HB2.out.trans (hb3.mono HB2.out.size)); clear hb3)
  | (refine wpList_store_fresh rfl 30 (.tmp 7) (.tmp 20) rfl (u8s d) rfl rfl (by rw [HD32.out]; rfl) HID.out (u8s_one d) ?_; intro w4 H4; have HB4 : Hid (Below w.heap.size w w4 /\ Rd (fun _ => True) w4 (some ⟨w3.heap.size, 0, none⟩) 32 d) := iq ⟨HB3.out.trans (H4.out.1.mono HB3.out.size), Rd.of_range H4.out.2.1 H4.out.2.2.2 trivial (fun _ _ h => h) HD.out⟩)
  | (at_builtin; refine wpList_append_rd (w0 := w) rfl (.tmp 21) (.tmp 22) rfl w.heap.size 0 32 32 _ (some ⟨w3.heap.size, 0, none⟩) [] d rfl rfl (own_at w w4 HB4.out.1.size) (HB4.out.2.below (bl.alloc (Nat.le_refl _) _) (fun _ h _ => h)) ⟨(fun e => by cases e), Nat.le_refl _, by omega⟩ (HB4.out.1.alloc HB4.out.1.size _) (by have := HB4.out.1.size; simp; omega) (by omega) ?_; intro A5 c5 w5 h5 hb5; rw [Nat.zero_add] at h5 ⊢; rw [List.nil_append] at h5))
 go_ret
 exact ⟨A5, c5, rfl, iq ⟨Rd.of_own h5.out.1, h5.out.2⟩, hb5⟩
theorem refKey_any (s : ByteArray) (name : List UInt8) (i most : Int) (w : World) (hs : s.data.toList = name) (hm : s.size <= 1000) (h3 : most <= 1000000) (hk : KIs w) (h0 : 0 < w.heap.size) :
  Calls Tryz.prog 118 #[.string s, .int .i64 i, .int .i64 most] w fun E w' => ∃ A c, E = .returned (.slice A (keyI name most i).length c) /\ Hid (Rd (w.heap.size <= ·) w' A (keyI name most i).length (keyI name most i) /\ Sl A (keyI name most i).length c) /\ Below w.heap.size w w' := by
 by_cases h : i < 1 \/ most < i
 ·have e : keyI name most i = [] := if_pos h
  rw [e]
  exact (refKey_no s i most w h).mono fun E w' ⟨he, hw⟩ => hw ▸ ⟨none, 0, he, iq ⟨Rd.nil _ _ _, ⟨fun _ => ⟨rfl, rfl⟩, Nat.le_refl _, by simp⟩⟩, Below.refl _ _⟩
 ·obtain ⟨j, rfl⟩ : ∃ j : Nat, i = (j : Int) := ⟨i.toNat, by omega⟩
  have e : keyI name most (j : Int) = sumOf (name ++ be 8 j) := by rw [keyI, if_neg h, Int.toNat_natCast]
  rw [e, sumOf_length]
  exact refKey_by s name (sumOf (name ++ be 8 j)) j most w hs hm (by omega) (by omega) h3 (sumOf_length _) hk h0
   (fun A c w hr hsl => (refWord_any A s.size c name j w hr hsl (by omega)).mono fun e w' ⟨A', c', he, ho, hb⟩ => ⟨A', c', he, iq ⟨(Rd.of_own ho.out.1).mono fun _ _ _ => trivial, ho.out.2⟩, hb⟩)
   (fun A c w hr hs hk h0 => by
    have e : (name ++ be 8 j).length = s.size + 8 := hr.1
    have := refSum_any (name ++ be 8 j) A c w (by rw [e]; exact hr) (by rw [e]; exact hs) (by rw [e]; omega) hk h0
    rwa [e] at this)
theorem refReplica_any (i : Int) (w : World) (hk : KIs w) (h0 : 0 < w.heap.size) :
  Calls Tryz.prog 83 #[.int .i64 i] w fun E w' => ∃ A c, E = .returned (.slice A (repKey i).length c) /\ Hid (Rd (w.heap.size <= ·) w' A (repKey i).length (repKey i) /\ Sl A (repKey i).length c) /\ Below w.heap.size w w' := by
 have H := fun s hs hm => iq (refKey_any s txtRep i 11 w hs hm (by omega) hk h0)
 rw [show keyI txtRep 11 i = repKey i from rfl] at H
 generalize repKey i = d at H ⊢
 go_enter Tryz.func83, Tryz.ntmps83
 go_wp2_with (go_at_call 118; refine ((H _ rfl (by decide)).out).mono ?_; rintro E w1 ⟨A, c, rfl, h1, hb1⟩)
 go_ret
 exact ⟨A, c, rfl, h1, hb1⟩
theorem refClient_any (i : Int) (w : World) (hk : KIs w) (h0 : 0 < w.heap.size) :
  Calls Tryz.prog 87 #[.int .i64 i] w fun E w' => ∃ A c, E = .returned (.slice A (cliKey i).length c) /\ Hid (Rd (w.heap.size <= ·) w' A (cliKey i).length (cliKey i) /\ Sl A (cliKey i).length c) /\ Below w.heap.size w w' := by
 have H := fun s hs hm => iq (refKey_any s txtCli i 8 w hs hm (by omega) hk h0)
 rw [show keyI txtCli 8 i = cliKey i from rfl] at H
 generalize cliKey i = d at H ⊢
 go_enter Tryz.func87, Tryz.ntmps87
 go_wp2_with (go_at_call 118; refine ((H _ rfl (by decide)).out).mono ?_; rintro E w1 ⟨A, c, rfl, h1, hb1⟩)
 go_ret
 exact ⟨A, c, rfl, h1, hb1⟩
theorem Rd.grownAt {w w' : World} {A : Option Addr} {B n : Nat} {bs : List UInt8} {row : Option Nat} (h : Rd (· < B) w A n bs) (hg : w.grownBy w' row) (hr : ∀ k, row = some k -> B <= k) : Rd (fun _ => True) w' A n bs := by
 refine ⟨h.1, fun hn => ?_⟩
 obtain ⟨b, o, hA, hlt, hp, hc⟩ := h.2 hn
 exact ⟨b, o, hA, Nat.lt_of_lt_of_le hlt hg.size, trivial, fun j u hu => hg.cell (hc j u hu) (fun e => by have := hr b e.symm; have hp' : b < B := hp; omega)⟩
theorem refNumbered_by (rk wd b out : List UInt8) (kr : Nat) (i : Int) (n : Nat) (A : Option Addr) (m c : Nat) (w : World) (ho : (u8s out).length = 32) (hm : m < 1000000) (hr : Rd (fun _ => True) w A m b) (hs : Sl A m c) (hk : KIs w) (h0 : 0 < w.heap.size)
  (R : ∀ w : World, KIs w -> 0 < w.heap.size -> Calls Tryz.prog 83 #[.int .i64 i] w fun E w' => ∃ A c, E = .returned (.slice A kr c) /\ Hid (Rd (w.heap.size <= ·) w' A kr rk /\ Sl A kr c) /\ Below w.heap.size w w')
  (W8 : ∀ w : World, Calls Tryz.prog 84 #[.slice none 0 0, .int .u64 n] w fun e w' => ∃ A' c', e = .returned (.slice A' 8 c') /\ Hid (w'.ownsRow w.heap.size 5 1 (.slice A' 8 c') 8 (u8s wd)) /\ Below w.heap.size w w')
  (T : ∀ (A1 : Option Addr) (c1 : Nat) (A2 : Option Addr) (c2 : Nat) (w : World), Rd (fun _ => True) w A1 kr rk -> Sl A1 kr c1 -> Rd (fun _ => True) w A2 (8 + m) (wd ++ b) -> Sl A2 (8 + m) c2 -> KIs w -> 0 < w.heap.size -> Calls Tryz.prog 82 #[.slice A1 kr c1, .slice A2 (8 + m) c2] w fun E w' => E = .returned (.agg (u8s out).toArray) /\ Below w.heap.size w w') :
  Calls Tryz.prog 54 #[.int .i64 i, .int .u64 n, .slice A m c] w fun E w' => E = .returned (.agg (u8s out).toArray) /\ Below w.heap.size w w' := by
 have HR := iq hr
 have HS := iq hs
 have HK := iq hk
 have HO := iq ho
 have RR := iq R
 have WW := iq W8
 have TT := iq T
 have HIO : Hid ((Tryz.prog.info? 30).map (·.size) = some (u8s out).length) := iq (by rw [ho]; exact Tryz.size30)
 clear hr hs hk ho R W8 T
 have HA0 : Hid (Below w.heap.size w (w.alloc (.cells (List.replicate 32 (Value.int .u8 0)).toArray 30))) := iq (bl.alloc (Nat.le_refl _) _)
 go_enter Tryz.func54, Tryz.ntmps54
 go_wp2_with (first
  | (go_at_call 83; refine (RR.out _ (HK.out.below HA0.out h0) (by simp)).mono ?_; rintro E w1 ⟨A1, c1, rfl, H1, hb1⟩; have HB1 : Hid (Below w.heap.size w w1 /\ w1.there w.heap.size 0 32 /\ w.heap.size < w1.heap.size) := iq ⟨HA0.out.trans (hb1.mono (by simp)), there_below (there_new w (List.replicate 32 (Value.int .u8 0)).toArray 30) hb1 (by simp), by have := hb1.size; simp at this; omega⟩; clear hb1)
  | (go_at_call 84; refine (WW.out w1).mono ?_; rintro E w2 ⟨A2, c2, rfl, H2, hb2⟩; have HB2 : Hid (Below w.heap.size w w2 /\ w2.there w.heap.size 0 32 /\ w1.heap.size <= w2.heap.size) := iq ⟨HB1.out.1.trans (hb2.mono HB1.out.1.size), there_below HB1.out.2.1 hb2 HB1.out.2.2, hb2.size⟩; have HK2 := iq ((H1.out.1.inn).below hb2 (fun _ h _ => h)); clear hb2)
  | (at_builtin; refine wpList_append_gb rfl (.tmp 10) (.tmp 11) rfl w1.heap.size 8 m c _ A wd b rfl rfl H2.out (HR.out.below HB2.out.1 (fun _ h _ => h)) HS.out HB2.out.2.2 (by omega) ?_; intro A5 c5 w5 h5 hg5; have HB5 : Hid (Below w.heap.size w w5 /\ Rd (fun _ => True) w5 A1 kr rk /\ w5.there w.heap.size 0 32 /\ w.heap.size < w5.heap.size) := iq ⟨HB2.out.1.grown hg5.out HB2.out.1.size (fun k hk => by have := (H2.out.lt k hk).1; have := HB1.out.2.2; omega), HK2.out.grownAt hg5.out (fun k hk => (H2.out.lt k hk).1), there_grownO HB2.out.2.1 hg5.out (fun k hk => by have := (H2.out.lt k hk).1; have := HB1.out.2.2; omega), by have := HB1.out.2.2; have := HB2.out.2.2; have := hg5.out.size; omega⟩; have HR5 : Hid (Rd (fun _ => True) w5 A5 (8 + m) (wd ++ b) /\ Sl A5 (8 + m) c5) := iq ⟨(Rd.of_own h5.out.1).mono fun _ _ _ => trivial, h5.out.2⟩; clear h5 hg5)
  | (go_at_call 82; refine (TT.out A1 c1 A5 c5 w5 HB5.out.2.1 H1.out.2 HR5.out.1 HR5.out.2 (HK.out.below HB5.out.1 h0) (Nat.lt_of_lt_of_le h0 HB5.out.1.size)).mono ?_; rintro E w6 ⟨rfl, hb6⟩; have HB6 : Hid (Below w.heap.size w w6) := iq (HB5.out.1.trans (hb6.mono HB5.out.1.size)); have HT6 : Hid (w6.there w.heap.size 0 (u8s out).length) := iq (by rw [HO.out]; exact there_below HB5.out.2.2.1 hb6 HB5.out.2.2.2); clear hb6)
  | (refine wpList_store_cells rfl 30 (.tmp 6) (.tmp 13) rfl w.heap.size 0 (u8s out) rfl rfl HT6.out HIO.out (u8s_one _) ?_))
 exact bodyPost_ret (ret_range (cs := u8s out) rfl rfl (World.rangeAt_setCells_same _ _ _ (u8s out) HT6.out) Tryz.underlying30 rfl HIO.out) rfl ⟨rfl, below_setCells (Nat.le_refl _) _ _ _ HB6.out⟩
theorem refNumbered_any {Pb : Nat -> Prop} (i : Int) (n : Nat) (b : List UInt8) (A : Option Addr) (m c : Nat) (w : World) (hr : Rd Pb w A m b) (hs : Sl A m c) (hL : m < 900000) (hk : KIs w) (h0 : 0 < w.heap.size) :
  Calls Tryz.prog 54 #[.int .i64 i, .int .u64 n, .slice A m c] w fun E w' => E = .returned (.agg (u8s (numTag i n b)).toArray) /\ Below w.heap.size w w' := by
 have hkl : (repKey i).length <= 32 := keyI_length _ _ _
 refine refNumbered_by (repKey i) (be 8 n) b (numTag i n b) (repKey i).length i n A m c w (by rw [u8s_length, numTag_length]) (by omega) (hr.mono fun _ _ _ => trivial) hs hk h0 (fun w hk h0 => refReplica_any i w hk h0) (fun w => ?_) (fun A1 c1 A2 c2 w h1 h2 h3 h4 hk h0 => ?_)
 ·have := refWord_any none 0 0 [] n w (Rd.nil (fun _ => True) _ _) ⟨fun _ => ⟨rfl, rfl⟩, Nat.le_refl _, by omega⟩ (by omega)
  refine this.mono fun e w' ⟨A', c', he, ho, hb⟩ => ⟨A', c', ?_, iq ?_, hb⟩
  ·rw [he]
  ·simpa using ho.out.1
 ·exact refOf_any (repKey i) (be 8 n ++ b) A1 _ c1 A2 _ c2 w (by omega) (by omega) h1 h2 h3 h4 hk h0
end Go.Proofs.YtknpcmadghkaaaaGreatDoor.Sh
