/-
  What is proved: what a write that is sure turns. Conditions as stated.
-/
import Derived.Test.YthbbghkefekhfaaEd
namespace Go.Proofs.Ythbbghkefekhfaa
open Go.RowKit

theorem setAll_length : ∀ (vs C : List Value) (o : Nat), (setAll C o vs).length = C.length
  | [], _, _ => rfl
  | v :: r, C, o => by rw [setAll, setAll_length r]; simp
theorem rflat_length : ∀ l : List (Int × List UInt8 × Bool), (∀ p ∈ l, p.2.1.length = 128) → (l.flatMap rcells).length = l.length * 130
  | [], _ => rfl
  | p :: r, h => by
    rw [List.flatMap_cons, List.length_append, rcells_length (h p (by simp)), rflat_length r (fun q hq => h q (by simp [hq])), List.length_cons]
    omega
theorem row_put {w : World} {g n cap : Nat} {sl : List (Int × List UInt8 × Bool)} (h : w.ownsRow 0 68 130 (.slice (some ⟨g, 0, none⟩) n cap) n (sl.flatMap rcells)) (hn : sl.length = n) (h128 : ∀ p ∈ sl, p.2.1.length = 128) {k : Nat} (hk : k < n) (p : Int × List UInt8 × Bool) (hp : p.2.1.length = 128) :
    (w.setCells g (k * 130) (rcells p)).ownsRow 0 68 130 (.slice (some ⟨g, 0, none⟩) n cap) n ((sl.set k p).flatMap rcells) := by
  subst hn
  have hs : ∀ q ∈ sl.set k p, q.2.1.length = 128 := fun q hq => by
    rcases List.mem_or_eq_of_mem_set hq with h | rfl
    · exact h128 q h
    · exact hp
  refine ⟨by rw [rflat_length _ hs]; simp, .inr ?_⟩
  rcases h.2 with ⟨e, h0⟩ | ⟨g', cap', cur, e, hb, hg, h1, h2, h3, h4⟩
  · omega
  · injection e with e1 e2 e3
    injection e1 with e1
    injection e1 with e1
    subst e1 e3
    refine ⟨g, cap, (setAll cur.toList (k * 130) (rcells p)).toArray, rfl, hb, ?_, h1, h2, ?_, ?_⟩
    · exact heap_setCells _ _ w cur.toList (by simpa using hg)
    · simp [setAll_length]; exact h3
    · have hc : cur.toList = sl.flatMap rcells ++ cur.toList.drop (sl.length * 130) := by rw [← h4, List.take_append_drop]
      have hsp : sl = sl.take k ++ (sl[k] :: sl.drop (k + 1)) := by rw [← List.drop_eq_getElem_cons hk, List.take_append_drop]
      have hfl : sl.flatMap rcells = (sl.take k).flatMap rcells ++ (rcells sl[k] ++ (sl.drop (k + 1)).flatMap rcells) := by
        have := congrArg (List.flatMap rcells) hsp
        rw [this]
        simp only [List.flatMap_append, List.flatMap_cons]
      have hl : ((sl.take k).flatMap rcells).length = k * 130 := by
        rw [rflat_length _ (fun q hq => h128 q (List.mem_of_mem_take hq)), List.length_take, Nat.min_eq_left (by omega)]
      have hset : (sl.set k p).flatMap rcells = (sl.take k).flatMap rcells ++ (rcells p ++ (sl.drop (k + 1)).flatMap rcells) := by
        rw [List.set_eq_take_append_cons_drop, if_pos hk]
        simp only [List.flatMap_append, List.flatMap_cons]
      have hm := setAll_mid (rcells p) ((sl.take k).flatMap rcells) (rcells sl[k]) ((sl.drop (k + 1)).flatMap rcells ++ cur.toList.drop (sl.length * 130)) (by rw [rcells_length hp, rcells_length (h128 _ (List.getElem_mem hk))])
      rw [hl] at hm
      show (setAll cur.toList (k * 130) (rcells p)).take (sl.length * 130) = _
      rw [hc, hfl, List.append_assoc, List.append_assoc, hm]
      rw [show (sl.take k).flatMap rcells ++ (rcells p ++ ((sl.drop (k + 1)).flatMap rcells ++ cur.toList.drop (sl.length * 130))) = (sl.set k p).flatMap rcells ++ cur.toList.drop (sl.length * 130) by rw [hset]; simp only [List.append_assoc]]
      refine List.take_left' ?_
      rw [rflat_length _ hs]
      simp
theorem look_none (x : Int) (l : List (Int × List UInt8 × Bool)) (h : ∀ p ∈ l, p.1 ≠ x) : look l x = none := by
  rw [look_drop x 0 l (by simpa using h)]
  rfl
theorem look_set (x : Int) (p : Int × List UInt8 × Bool) : ∀ (l : List (Int × List UInt8 × Bool)) (k : Nat) (q : Int × List UInt8 × Bool), l.Pairwise (fun a b => a.1 ≠ b.1) → l[k]? = some q → q.1 = p.1 → look (l.set k p) x = if p.1 = x then some p.2 else look l x
  | [], _, _, _, h, _ => by simp at h
  | a :: r, 0, q, hu, hq, he => by
    simp at hq
    subst hq
    rw [List.set_cons_zero, look, look]
    have hr := List.pairwise_cons.1 hu
    by_cases hx : p.1 = x
    · rw [look_none x r (fun b hb e => hr.1 b hb (by rw [he, hx, e])), if_pos hx]
      simp [hx]
    · rw [if_neg hx, if_neg hx, if_neg (by rw [he]; exact hx)]
  | a :: r, k + 1, q, hu, hq, he => by
    have hr := List.pairwise_cons.1 hu
    rw [List.set_cons_succ, look, look_set x p r k q hr.2 (by simpa using hq) he, look]
    by_cases hx : p.1 = x <;> simp [hx]

def Dk.puts (s : Dk) (p : Int × List UInt8 × Bool) : Dk := { s with sure := upd s.sure p.1 (if p.2.2 then none else some p.2.1) }
theorem puts_sure {s : Dk} {sl sl' : List (Int × List UInt8 × Bool)} {p : Int × List UInt8 × Bool} (h : ∀ x, s.sure x = match look sl x with
    | none => some zeros
    | some q => if q.2 then none else some q.1) (hl : ∀ x, look sl' x = if p.1 = x then some p.2 else look sl x) (x : Int) : (s.puts p).sure x = match look sl' x with
    | none => some zeros
    | some q => if q.2 then none else some q.1 := by
  rw [hl]
  unfold Dk.puts
  simp only
  by_cases hx : p.1 = x
  · subst hx
    rw [upd_same, if_pos rfl]
  · rw [upd_other _ _ (fun e => hx e.symm), if_neg hx, h]

/-- One write in place of the one ahead. -/
theorem RRep.putAt {w : World} {S : Nat → Prop} {r T : Nat} {s : Dk} {fz : Int} {g c : Nat} {V2 : Value} {sl : List (Int × List UInt8 × Bool)} (h : RRep w S r T s fz (.slice (some ⟨g, 0, none⟩) sl.length c) V2 sl) (p q : Int × List UInt8 × Bool) (hp : p.2.1.length = 128) {k : Nat} (hq : sl[k]? = some q) (he : q.1 = p.1) :
    RRep (w.setCells g (k * 130) (rcells p)) S r T (s.puts p) fz (.slice (some ⟨g, 0, none⟩) sl.length c) V2 (sl.set k p) := by
  have hk : k < sl.length := (List.getElem?_eq_some_iff.1 hq).1
  have hqk : sl[k] = q := (List.getElem?_eq_some_iff.1 hq).2
  have hne := h.apart.1 g rfl
  have gb := gb_setCells g (rcells p) (k * 130) w
  have hr := row_put h.row1 rfl h.slen hk p hp
  refine ⟨(gb.block r (h.lt r (h.own r (.inl rfl))) (fun e => hne (by injection e with e; exact e.symm))).trans h.hd, h.fuse, h.bound, puts_sure h.sure (fun x => look_set x p sl k q h.uniq hq he), ?_, ?_, h.len, ?_, rrow_kept h.row2 fun g' hg' => gb.block g' (h.row2.lt g' hg').2 (fun e => h.ap g rfl (by rw [hg']; exact e)), h.ap, ?_, h.own, fun k hk => Nat.lt_of_lt_of_le (h.lt k hk) gb.size⟩
  · have hm : (sl.set k p).map (·.1) = sl.map (·.1) := by
      rw [List.map_set, ← he, ← hqk]
      apply List.ext_getElem?
      intro i
      rw [List.getElem?_set]
      by_cases hi : k = i
      · subst hi; simp [hk]
      · simp [hi]
    have h1 : (sl.map (·.1)).Pairwise (· ≠ ·) := List.pairwise_map.2 h.uniq
    rw [← hm] at h1
    exact List.pairwise_map.1 h1
  · intro a ha
    rcases List.mem_or_eq_of_mem_set ha with h' | rfl
    · exact h.slen a h'
    · exact hp
  · rw [List.length_set]; exact hr
  · rw [List.length_set]; exact h.many

/-- One write behind those that are sure. -/
theorem RRep.putNew {w w6 : World} {S : Nat → Prop} {r T : Nat} {s : Dk} {fz : Int} {V1 V2 V1' : Value} {sl : List (Int × List UInt8 × Bool)} (h : RRep w S r T s fz V1 V2 sl) (p : Int × List UInt8 × Bool) (hp : p.2.1.length = 128) (hno : ∀ q ∈ sl, q.1 ≠ p.1)
    (hd6 : w6.heap[r]? = some (.cells (dref V1' V2 s.off fz).toArray 43 (0, 0)))
    (hr6 : w6.ownsRow 0 68 130 V1' (sl.length + 1) (sl.flatMap rcells ++ rcells p)) (hl6 : V1'.ownBlock = V1.ownBlock ∨ ∃ g, V1'.ownBlock = some g ∧ w.heap.size ≤ g)
    (hk6 : ∀ k, k < w.heap.size → k ≠ r → some k ≠ V1.ownBlock → w6.heap[k]? = w.heap[k]?) (hz6 : w.heap.size ≤ w6.heap.size) :
    RRep w6 (plus S w w6) r (T + 1) (s.puts p) fz V1' V2 (sl ++ [p]) := by
  obtain ⟨a1, a2⟩ := h.apart
  have hm := h.many
  refine ⟨hd6, h.fuse, h.bound, puts_sure h.sure (fun x => look_snoc p x sl), ?_, ?_, h.len, ?_, rrow_kept h.row2 fun g hg => hk6 g (h.row2.lt g hg).2 (a2 g hg) (fun e => h.ap g e.symm hg), ?_, by simp [Dk.puts]; omega, ?_, ?_⟩
  · refine List.pairwise_append.2 ⟨h.uniq, by simp, fun a ha b hb => ?_⟩
    simp at hb
    subst hb
    exact hno a ha
  · intro a ha
    rcases List.mem_append.1 ha with ha | ha
    · exact h.slen a ha
    · simp at ha; subst ha; exact hp
  · simp only [List.length_append, List.length_cons, List.length_nil, Nat.zero_add, List.flatMap_append, List.flatMap_cons, List.flatMap_nil, List.append_nil]
    exact hr6
  · intro g hg e
    rcases hl6 with h0 | ⟨g', h0, h1⟩
    · exact h.ap g (h0 ▸ hg) e
    · rw [h0] at hg
      injection hg with hg
      have := (h.row2.lt g e).2
      omega
  · rintro k (rfl | hk | hk)
    · exact .inl (h.own _ (.inl rfl))
    · rcases hl6 with h0 | ⟨g', h0, h1⟩
      · exact .inl (h.own _ (.inr (.inl (h0 ▸ hk))))
      · rw [h0] at hk
        injection hk with hk
        subst hk
        exact .inr ⟨h1, (hr6.lt _ h0).2⟩
    · exact .inl (h.own _ (.inr (.inr hk)))
  · rintro k (hk | hk)
    · exact Nat.lt_of_lt_of_le (h.lt k hk) hz6
    · exact hk.2

/-- Cells go into the middle of a block, in a region that draws. -/
theorem step_store_cells {P : Program} {ops : Array Oper} {op : Oper} {a : Act} {w : World} {K : Act → World → Prop} {Q : Exit → Act → World → Prop} {E : Prop} (hgd : op.guard = none) (ty : TypeId) (x y : Operand) (ho : op.op = .store ty x y)
    (b o : Nat) (cs : List Value) (hx : a.eval x = .pointer (some ⟨b, o, none⟩)) (hy : a.eval y = .agg cs.toArray) (ht : w.there b o cs.length) (hi : (P.info? ty).map (·.size) = some cs.length) (h1 : ∀ v ∈ cs, v.oneCell' = true)
    (h : K (a.put op.dst undef) (w.setCells b o cs)) : if Region.wanted op (yielded ops a.tmps) = true then Oper.wp P op a w K Q else E := by
  have hw : Region.wanted op (yielded ops a.tmps) = true := by simp [Region.wanted, hgd]
  rw [if_pos hw]
  exact wp_store_mid ty x y ho b o cs.toArray hx hy (by simpa using ht) (by simpa using hi) (all_oneCell_toArray h1) (by simpa using h)
end Go.Proofs.Ythbbghkefekhfaa
