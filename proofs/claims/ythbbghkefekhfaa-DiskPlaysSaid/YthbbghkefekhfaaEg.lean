/-
  What is proved: what the document's Sync does. Conditions as stated.
-/
import Derived.Test.YthbbghkefekhfaaEf
namespace Go.Proofs.Ythbbghkefekhfaa
open Go.RowKit

/-- Nothing is loose any more. -/
theorem RRep.emptied {w w' : World} {S : Nat → Prop} {r T T' : Nat} {s : Dk} {fz : Int} {V1 V2 : Value} {sl : List (Int × List UInt8 × Bool)} (h : RRep w S r T s fz V1 V2 sl) (hk : ∀ k, S k → k ≠ r → w'.heap[k]? = w.heap[k]?) (hz : w.heap.size ≤ w'.heap.size)
    {off' : Bool} {fz' : Int} {fuse' : Option Nat} (hd' : w'.heap[r]? = some (.cells (dref V1 (.slice none 0 0) off' fz').toArray 43 (0, 0))) (hf : fuse' = if 0 ≤ fz' then some fz'.toNat else none) (hb : -1 ≤ fz' ∧ fz' < 9223372036854775808) (hT : sl.length ≤ T') :
    RRep w' S r T' { s with off := off', fuse := fuse', loose := [] } fz' V1 (.slice none 0 0) sl := by
  obtain ⟨a1, a2⟩ := h.apart
  refine ⟨hd', hf, hb, h.sure, h.uniq, h.slen, fun _ h => (by cases h), rrow_kept h.row1 fun g hg => hk g (h.own g (by simp [hg])) (a1 g hg), World.ownsRow_nil _ _ _ _, fun g _ e => (by simp [Value.ownBlock] at e), by simpa using hT, ?_, fun k hk => Nat.lt_of_lt_of_le (h.lt k hk) hz⟩
  rintro k (hk | hk | hk)
  · exact h.own k (.inl hk)
  · exact h.own k (.inr (.inl hk))
  · simp [Value.ownBlock] at hk
theorem burn_keeps (s : Dk) : s.burn.1.loose = s.loose := by
  unfold Dk.burn
  split <;> rfl
theorem burn_zero_off {s : Dk} (h : s.burn.2 = 0) : s.burn.1.off = s.off := by
  unfold Dk.burn at h ⊢
  split <;> simp_all
/-- What k writes made sure leave. -/
def Dk.part (s : Dk) (t : Nat → Nat) (k : Nat) : Dk := { s with sure := settled t 0 s.sure (s.loose.take k) }
theorem part_zero (s : Dk) (t : Nat → Nat) : s.part t 0 = s := rfl
theorem part_succ {s : Dk} {t : Nat → Nat} {k : Nat} {p : Int × List UInt8} (h : s.loose[k]? = some p) : s.part t (k + 1) = { s.part t k with sure := done (s.part t k).sure p (t k) } := by
  have hk := (List.getElem?_eq_some_iff.1 h).1
  unfold Dk.part
  rw [List.take_add_one, h]
  simp only [Option.toList_some]
  rw [show p = (p.1, p.2) from rfl, settled_snoc, List.length_take, Nat.min_eq_left (by omega), Nat.zero_add]
/-- How the document's disk lies while its loose writes are made sure. -/
structure Mid (w1 : World) (S : Nat → Prop) (wr : World) (r T n0 : Nat) (s : Dk) (fz : Int) (V2 : Value) (t : Nat → Nat) (k : Nat) (Sk : Nat → Prop) (V1 : Value) (sl : List (Int × List UInt8 × Bool)) : Prop where
  rep : RRep wr Sk r (T + k) (s.part t k) fz V1 V2 sl
  short : sl.length ≤ n0 + k
  own : Own w1 S wr Sk
theorem Mid.next {w1 : World} {S : Nat → Prop} {wr w2 : World} {r T n0 : Nat} {s : Dk} {fz : Int} {V2 : Value} {t : Nat → Nat} {k : Nat} {Sk : Nat → Prop} {V1 : Value} {sl : List (Int × List UInt8 × Bool)} (h : Mid w1 S wr r T n0 s fz V2 t k Sk V1 sl)
    {p : Int × List UInt8} (hp : s.loose[k]? = some p) {q : Int × List UInt8 × Bool} (hd : done (s.part t k).sure p (t k) = upd (s.part t k).sure q.1 (if q.2.2 then none else some q.2.1))
    {S2 : Nat → Prop} {V1' : Value} {sl' : List (Int × List UInt8 × Bool)} (h2 : RRep w2 S2 r (T + k + 1) ((s.part t k).puts q) fz V1' V2 sl') (hl : sl'.length ≤ sl.length + 1) (ho : Own wr Sk w2 S2) : Mid w1 S w2 r T n0 s fz V2 t (k + 1) S2 V1' sl' := by
  refine ⟨?_, by have := h.short; omega, h.own.trans ho⟩
  rw [part_succ hp, hd]
  exact h2
theorem Mid.skip {w1 : World} {S : Nat → Prop} {wr w2 : World} {r T n0 : Nat} {s : Dk} {fz : Int} {V2 : Value} {t : Nat → Nat} {k : Nat} {Sk : Nat → Prop} {V1 : Value} {sl : List (Int × List UInt8 × Bool)} (h : Mid w1 S wr r T n0 s fz V2 t k Sk V1 sl)
    {p : Int × List UInt8} (hp : s.loose[k]? = some p) (hd : t k % 4 = 0) (hb : Below wr.heap.size wr w2) : Mid w1 S w2 r T n0 s fz V2 t (k + 1) Sk V1 sl := by
  refine ⟨?_, by have := h.short; omega, h.own.trans (Own.same (Turns.of_below hb))⟩
  have e : s.part t (k + 1) = s.part t k := by
    rw [part_succ hp]
    unfold done
    rw [if_pos hd]
  rw [e]
  exact (h.rep.below hb).more (by have := h.rep.many; omega)
/-- A loose write, as it lies. -/
theorem RRep.soft_at {w : World} {S : Nat → Prop} {r T : Nat} {s : Dk} {fz : Int} {V1 : Value} {A : Option Addr} {n c : Nat} {sl : List (Int × List UInt8 × Bool)} (h : RRep w S r T s fz V1 (.slice A n c) sl) (hn : n = s.loose.length) {k : Nat} {p : Int × List UInt8} (hp : s.loose[k]? = some p) :
    ∃ g, A = some ⟨g, 0, none⟩ ∧ w.rangeAt g (k * 130) (rcells (softW p)) := by
  have hk := (List.getElem?_eq_some_iff.1 hp).1
  subst hn
  obtain ⟨g, c', e1, -, -, hrg⟩ := row_some h.row2 (by omega)
  injection e1 with e1 _ e3
  refine ⟨g, e1, fun i v hv => ?_⟩
  have hi : i < 130 := by
    have := (List.getElem?_eq_some_iff.1 hv).1
    rwa [rcells_length (h.len p (List.mem_of_getElem? hp))] at this
  have := hrg (k * 130 + i) v (by rw [rflat_at _ (soft_len h.len) k (softW p) (by simp [hp]) _ hi]; exact hv)
  rwa [Nat.zero_add] at this

set_option maxHeartbeats 4000000 in
set_option maxRecDepth 100000 in
theorem refSync_any {w : World} {S : Nat → Prop} {r T : Nat} {s : Dk} (h : RefIs w S r T s) (hT : T < 100000000) :
    Calls Try.prog 18 #[.pointer (some ⟨r, 0, none⟩)] w fun E w' => E = .returned (.int .i64 s.sync.2) ∧ ∃ S', RefIs w' S' r T s.sync.1 ∧ Own w S w' S' := by
  have HH := Lib.hid h
  have HB := Lib.hid (burns_any h)
  obtain ⟨fz, V1, V2, sl, h1⟩ := h
  obtain ⟨-, -, c2, -⟩ := h1.cells
  unfold Dk.sync
  by_cases ho : s.off = true
  · rw [ho] at c2
    rw [if_pos ho]
    clear h1 HB
    go_enter Try.func18, Try.ntmps18
    go_wp2
    go_ret
    exact ⟨rfl, S, HH.out, Own.same (Turns.refl _ _)⟩
  have ho' : s.off = false := by simpa using ho
  rw [ho'] at c2
  rw [if_neg ho]
  have hbk := burn_keeps s
  have hbo : s.burn.2 = 0 → s.burn.1.off = s.off := burn_zero_off
  rcases burn_two s with hb | hb
  · rw [if_neg (by rw [hb]; simp)]
    rw [hb] at HB
    rw [two_ne.1] at HB
    obtain ⟨s1, hs1⟩ : ∃ s1, s1 = s.burn.1 := ⟨_, rfl⟩
    rw [← hs1] at HB ⊢
    clear h1 HH hb hbk hbo hs1
    go_enter Try.func18, Try.ntmps18
    go_wp2_with (first | (go_at_call 30; refine HB.out.mono ?_; rintro E w1 ⟨rfl, h1, t1⟩; have H1 := Lib.hid h1; have T1 := Lib.hid t1; clear h1 t1))
    clear c2 HB
    obtain ⟨fz, V1, V2, sl0, h1⟩ := H1.out
    obtain ⟨A, c, rfl, hsl⟩ := row_shape h1.row2
    have hsc := hsl.2
    have HM : Hid (Mid w1 S w1 r T sl0.length s1 fz (.slice A s1.loose.length c) (fun _ => 1) 0 S V1 sl0) := Lib.hid ⟨h1, Nat.le_refl _, Own.same (Turns.refl _ _)⟩
    have HMN := Lib.hid h1.many
    have hn : s1.loose.length < 100000000 := by have := h1.many; omega
    obtain ⟨n, hnn⟩ : ∃ n, n = s1.loose.length := ⟨_, rfl⟩
    have HNN := Lib.hid hnn
    rw [← hnn] at hn HM hsc
    clear h1 hsl hnn H1
    go_loopw [3] (fun v3 wr => ∃ k : Nat, k ≤ n ∧ v3 = .int .i64 (k : Int) ∧ ∃ Sk V1 sl, Hid (Mid w1 S wr r T sl0.length s1 fz (.slice A n c) (fun _ => 1) k Sk V1 sl)) (fun v3 _ => n - (intOf v3).toNat)
    case atStart => exact ⟨0, Nat.zero_le _, rfl, _, _, _, HM⟩
    case round =>
      clear HM
      obtain ⟨k, hkn, rfl, Sk, V1, sl, HM⟩ := hrel
      obtain ⟨-, c1, -, -⟩ := HM.out.rep.cells
      by_cases hk : k = n
      · subst hk
        have f1 := free_block HM.out.rep.hd 1
        go_wp2
        go_ret
        refine ⟨rfl, Sk, ⟨fz, V1, .slice none 0 0, sl, ?_⟩, (Own.same T1.out).trans (HM.out.own.trans (Own.same (turns_cell (HM.out.rep.own r (.inl rfl)) _ _)))⟩
        have he := HM.out.rep.emptied (w' := wr.setCell ⟨r, 1, none⟩ (.slice none 0 0)) (T' := T) (fun i _ hi => Below.heap_setCell _ _ _ _ hi) (by simp [World.setCell]) (heap_set (k := 1) HM.out.rep.hd _) HM.out.rep.fuse HM.out.rep.bound (by have := HM.out.short; have := HMN.out; have := HNN.out; omega)
        have e : s1.settle (fun _ => 1) = { s1.part (fun _ => 1) k with off := (s1.part (fun _ => 1) k).off, fuse := (s1.part (fun _ => 1) k).fuse, loose := [] } := by
          unfold Dk.settle Dk.part
          rw [HNN.out, List.take_length]
        rw [e]
        exact he
      · obtain ⟨p, hp⟩ : ∃ p, s1.loose[k]? = some p := ⟨_, List.getElem?_eq_getElem (by have := HNN.out; omega)⟩
        obtain ⟨g, rfl, hrg⟩ := HM.out.rep.soft_at HNN.out (p := p) hp
        have hp128 : (softW p).2.1.length = 128 := HM.out.rep.len p (List.mem_of_getElem? hp)
        have HRG := Lib.hid hrg
        have HP := Lib.hid hp
        have HPL : Hid ((rcells (softW p)).length = 130) := Lib.hid (rcells_length hp128)
        have HC := Lib.hid (put_any HM.out.rep (softW p) hp128 (by omega))
        clear hrg hp hp128
        go_wp2_with (first
          | (refine wpList_load_mid rfl 68 (.tmp 27) rfl g (k * 130) rfl (rcells (softW p)) _ HRG.out Try.underlying68 rfl (by rw [HPL.out]; exact Try.size68) ?_)
          | (go_at_call 34; refine HC.out.mono ?_; rintro E w2 ⟨rfl, S2, V1', sl', h2, l2, o2⟩; have H2 := Lib.hid h2; have L2 := Lib.hid l2; have O2 := Lib.hid o2; clear h2 l2 o2))
        go_roundw
        case measure => simp [intOf]; omega
        case rel => exact ⟨k + 1, by omega, by go_num, S2, V1', sl', Lib.hid (HM.out.next HP.out (q := softW p) rfl H2.out L2.out O2.out)⟩
  · rw [if_pos (by rw [hb]; decide)]
    rw [hb] at HB ⊢
    rw [two_ne.2] at HB
    clear h1 HH hbk hbo hb
    go_enter Try.func18, Try.ntmps18
    go_wp2_with (first | (go_at_call 30; refine HB.out.mono ?_; rintro E w1 ⟨rfl, h1, t1⟩; have H1 := Lib.hid h1; have T1 := Lib.hid t1; clear h1 t1))
    go_ret
    exact ⟨rfl, S, H1.out, Own.same T1.out⟩
end Go.Proofs.Ythbbghkefekhfaa
