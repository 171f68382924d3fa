/-
  What is proved: a range over a function whose body may turn whatever it owns: one law for the statement, told by what stays. Conditions as stated.
  What is proved: plain facts on a slot's sectors; laws on bytes that are read, put behind others, copied. Conditions as stated.
  What is proved: the function that goes through a slot's sectors, as it is ranged over. Conditions as stated.
  What is proved: a slot is written, sector by sector. Conditions as stated.
-/
import Derived.Test.YtepjfkmbmcfnoaaDoorK3
import Derived.RangeFuncRecord
import Derived.RangeFuncSeq
import Derived.Test.YtepjfkmbmcfnoaaDoorK5
import Derived.Deep.RegionHeld
import Derived.RegionTactic
import Derived.TacticsInMore
import Derived.LoopNIn
import Derived.LoopIn
import Derived.OwnWalkIn

namespace Go.Proofs.YtepjfkmbmcfnoaaDoor
open Go.RowKit

/-! ### a plain walk serves in a round's frame -/
theorem rowsIn_wide {n : Nat} {P : Program} {row : String} {args : Array Value} {w : World} {R : Value → World → Prop} (h : Rows P row args w R) : RowsIn Fence.wide n P row args w R :=
  fun c cs _ => let ⟨v, w', r, s⟩ := h c cs; ⟨v, w', r, stepsIn_wide.2 s⟩

theorem oper_round {P : Program} {o : Oper} {a : Act} {w : World} {next next' : Act → World → Prop} {Q : Exit → Act → World → Prop} {l n : Nat} (hd : ∀ c, o.op ≠ .defer c) (hn : ∀ a w, next a w → next' a w)
    (h : o.wp P a w next Q) : o.wpIn (Fence.wide.inRound l) n P a w next' Q := by
  refine ⟨fun _ _ => trivial, ?_⟩
  have e : (o.semAt (Fence.wide.inRound l).round a.eval) = execOp a.eval o := Oper.semAt_some l _ _ hd
  rw [e]
  unfold Oper.wp at h
  generalize (execOp a.eval o).run P w = r at h ⊢
  cases r with
  | ok x w' =>
    cases x with
    | value v => exact hn _ _ h
    | skip => exact hn _ _ h
    | defer d => exact hn _ _ h
    | enter f args =>
      refine ⟨fun h => by simp [Fence.wide] at h, (callsIn_wide (n := n - 1)).2 (h.mono fun E w'' hE => ?_)⟩
      cases E with
      | returned v => exact hn _ _ hE
      | panicked c => exact hE
      | outgrown => exact hE
    | row row args => exact ⟨fun h => by simp [Fence.wide] at h, rowsIn_wide (h.mono fun v w'' hv => hn _ _ hv)⟩
    | round => exact h.elim
    | _ => exact False.elim h
  | halt x w' =>
    cases x with
    | panic v => exact h
    | _ => exact h.elim

theorem list_round {P : Program} {ops : Array Oper} {Q : Exit → Act → World → Prop} {l n : Nat} (hQ : ∀ a w, ¬ Q .outgrown a w) : ∀ (L : List Oper) (a : Act) (w : World), (∀ o ∈ L, ∀ c, o.op ≠ .defer c) → wpList P ops Q L a w → wpListIn (Fence.wide.inRound l) n P ops Q L a w
  | [], _, _, _, h => h
  | o :: r, a, w, hd, h => by
    unfold wpList at h
    unfold wpListIn
    by_cases hw : Region.wanted o (yielded ops a.tmps) = true
    · rw [if_pos hw] at h ⊢
      rcases h with h | ⟨_, a', w', h⟩
      · exact oper_round (hd o (by simp)) (fun a w h => list_round hQ r a w (fun o ho => hd o (by simp [ho])) h) h
      · exact (hQ _ _ h).elim
    · rw [if_neg hw] at h ⊢
      exact ⟨fun _ _ => trivial, list_round hQ r _ _ (fun o ho => hd o (by simp [ho])) h⟩

/-- A region that keeps its order, in a round: walked as anywhere. -/
theorem region_round {P : Program} {id : Nat} {L : List Oper} {Q : Exit → Act → World → Prop} {l n : Nat} {a : Act} {w : World} (hQ : ∀ a w, ¬ Q .outgrown a w) (hd : ∀ o ∈ L, ∀ c, o.op ≠ .defer c)
    (h : wpList P L.toArray Q L a w) : (Code.region id L.toArray false).wpIn (Fence.wide.inRound l) n P Q a w := wpIn_region_lit (list_round hQ L a w hd h)

/-! ### what stays -/
/-- What is told of a world stays when there is new memory, and blocks may be told of beside it. -/
structure Keep (J : List (Nat × Obj) → World → Prop) : Prop where
  fresh : ∀ {L W W' q o}, J L W → Below W.heap.size W W' → W.heap.size ≤ q → W'.heap[q]? = some o → J ((q, o) :: L) W'
  next : ∀ {L W W'}, J L W → Below W.heap.size W W' → J L W'
  get : ∀ {L W q o}, J L W → (q, o) ∈ L → W.heap[q]? = some o
  sub : ∀ {L L' W}, J L W → (∀ p ∈ L', p ∈ L) → J L' W
/-- .. and such a block may be written. -/
structure Keeps (J : List (Nat × Obj) → World → Prop) : Prop extends Keep J where
  upd : ∀ {L W W' q o o'}, J ((q, o) :: L) W → (∀ p ∈ L, p.1 ≠ q) → W'.heap[q]? = some o' → W.grownBy W' (some q) → J ((q, o') :: L) W'

theorem Keep.lt {J : List (Nat × Obj) → World → Prop} (K : Keep J) {L : List (Nat × Obj)} {W : World} {p : Nat × Obj} (h : J L W) (hp : p ∈ L) : p.1 < W.heap.size := (Array.getElem?_eq_some_iff.1 (K.get h hp)).1
theorem Keep.alloc {J : List (Nat × Obj) → World → Prop} (K : Keep J) {L : List (Nat × Obj)} {W : World} (h : J L W) (o : Obj) : J ((W.heap.size, o) :: L) (W.alloc o) :=
  K.fresh h ((Below.refl _ W).alloc (Nat.le_refl _) o) (Nat.le_refl _) (heap_alloc_new W o)

theorem grownBy_putObj (W : World) (l : Nat) (o : Obj) : W.grownBy (W.putObj l o) (some l) :=
  ⟨rfl, rfl, rfl, by simp, fun k _ hk => World.putObj_heap_other (fun e => hk (by rw [e]))⟩

/-- THE CONTRACT OF A FUNCTION THAT IS RANGED OVER, N rounds at most, round k at 'encs k'. -/
def Goes (P : Program) (gf : Nat) (lb : Array Value) (encs : Nat → Array Value) (N : Nat) (L0 : List (Nat × Obj)) (Pj : World → Prop) : Prop :=
  ∀ (l : Nat) (J : Nat → List (Nat × Obj) → World → Prop) (Jx : World → Prop) (L : List (Nat × Obj)) (W : World), (∀ k, Keep (J k)) → (∀ p ∈ L0, p ∈ L) → (∀ k L' W', J k L' W' → Pj W') → J 0 L W →
    (∀ k L' W', k < N → J k L' W' → YieldAt Fence.wide 0 P l (encs k) W' fun e W2 => (e = .returned (.bool true) ∧ J (k + 1) L' W2) ∨ (e = .returned (.bool false) ∧ Jx W2)) →
    CallsIn Fence.wide 0 P gf (#[.func (.yield l) #[] #[]] ++ lb) W fun e W' => (∃ v, e = .returned v) ∧ (J N L W' ∨ Jx W')

/-- How a round's body may be left. -/
def roundEnd (I : List (Nat × Obj) → World → Prop) (Ix : Code → List (Nat × Obj) → World → Prop) (L : List (Nat × Obj)) : Exit → Act → World → Prop
  | .normal, _, W => I L W
  | .ret, _, W => Ix .ret L W
  | .exit id, _, W => Ix (.exit id) L W
  | .goto t, _, W => Ix (.goto t) L W
  | .panic _, _, _ => False
  | .outgrown, _, _ => False

/-- THE STATEMENT: 'for .. := range g { .. }'. -/
theorem wp_rangeKeeps {P : Program} {g : Operand} {ps : Array Tmp} {assign body : Code} {Q : Exit → Act → World → Prop} {a : Act} {w : World}
    {gf : Nat} {lb : Array Value} (hg : a.eval g = .func (.func gf) #[] lb) (eg : ∀ args w, (callFunc gf args).run P w = .ok (.enter gf args) w)
    {encs : Nat → Array Value} {N : Nat} {L0 L : List (Nat × Obj)} {Pj : World → Prop} (hseq : Goes P gf lb encs N L0 Pj) (hL0 : ∀ p ∈ L0, p ∈ L) (hps : ∀ k, (encs k).size = ps.size)
    (I : Nat → List (Nat × Obj) → World → Prop) (Ix : Code → List (Nat × Obj) → World → Prop) (hI : ∀ k, Keeps (I k)) (hIx : ∀ c, Keeps (Ix c)) (h0 : I 0 L w) (hP : ∀ (k : Nat) (M : List (Nat × Obj)) (W : World), (∀ p ∈ L, p ∈ M) → I k M W → Pj W)
    (hround : ∀ (l k : Nat) (M : List (Nat × Obj)) (W : World), k < N → (∀ p ∈ L, p ∈ M) → I k M W →
      assign.wpIn (Fence.wide.inRound l) 0 P (Exit.then (fun a₁ w₁ => ∃ M1, I k (M1 ++ M) w₁ ∧ (∀ p ∈ M1, W.heap.size ≤ p.1) ∧ ∀ M' w₂, (∀ p ∈ L, p ∈ M') → I k (M1 ++ M') w₂ → body.wpIn (Fence.wide.inRound l) 0 P (roundEnd (I (k + 1)) Ix M') a₁ w₂) (fun _ _ _ => False))
        { tmps := (ps.zip (encs k)).foldl (fun t (p, v) => t.setIfInBounds p v) a.tmps, defers := [] } W)
    (hdone : ∀ (D : Nat) (W : World), (∀ p ∈ L, p.1 ≠ D) → I N ((D, .deferred (some [])) :: L) W → Q .normal { a with defers := { target := .collected D, args := #[] } :: a.defers } W)
    (hstop : ∀ (D : Nat) (c : Code) (W : World), (∀ p ∈ L, p.1 ≠ D) → Ix c ((D, .deferred (some [])) :: L) W → c.wpIn Fence.wide 0 P Q { a with defers := { target := .collected D, args := #[] } :: a.defers } W) :
    (Code.rangeFunc g ps assign body).wpIn Fence.wide 0 P Q a w := by
  refine wpIn_rangeFunc ?_
  intro fn hfn
  rw [Fence.wide_round]
  obtain ⟨rec, hrec⟩ : ∃ rec : LoopState → Option Code → Loop, rec = fun st pe => { state := st, pending := pe, fn, tmps := a.tmps, params := ps, assign, body, defers := w.heap.size } := ⟨_, rfl⟩
  have hst : ∀ st pe, (rec st pe).state = st := fun st pe => by rw [hrec]
  have hr1 : ∀ st pe st', { rec st pe with state := st' } = rec st' pe := fun st pe st' => by rw [hrec]
  have hr2 : ∀ st pe st' pe', { rec st pe with state := st', pending := pe' } = rec st' pe' := fun st pe st' pe' => by rw [hrec]
  have hlt : ∀ p ∈ L, p.1 < w.heap.size := fun p hp => (hI 0).toKeep.lt h0 hp
  obtain ⟨dfr, hdfr⟩ : ∃ dfr, dfr = Obj.deferred (some []) := ⟨_, rfl⟩
  have h1 : I 0 ((w.heap.size + 1, .loop (rec .ready none)) :: (w.heap.size, dfr) :: L) ((w.alloc dfr).alloc (.loop (rec .ready none))) := by
    have := (hI 0).toKeep.alloc ((hI 0).toKeep.alloc h0 dfr) (.loop (rec .ready none))
    rwa [World.size_alloc] at this
  refine ⟨w.heap.size + 1, [{ target := .collected w.heap.size, args := #[] }], (w.alloc dfr).alloc (.loop (rec .ready none)), { target := .fn (.func gf) lb, args := #[.func (.yield (w.heap.size + 1)) #[] #[]] }, (w.alloc dfr).alloc (.loop (rec .ready none)), gf,
    #[.func (.yield (w.heap.size + 1)) #[] #[]] ++ lb, (w.alloc dfr).alloc (.loop (rec .ready none)), ?_, ?_, ?_, ?_, fun h => by simp [Fence.wide] at h, ?_⟩
  · rw [hrec, hdfr]; exact run_enterLoop_outer _ _ _ _ _
  · simp only [resolve, hg]
    simp [go_sem]
  · intro _ _; exact trivial
  · simp [invoke, go_sem, eg]
  -- the iterator's contract
  obtain ⟨D, hD⟩ : ∃ D, D = w.heap.size := ⟨_, rfl⟩
  obtain ⟨l, hl⟩ : ∃ l, l = w.heap.size + 1 := ⟨_, rfl⟩
  rw [← hl, ← hD] at h1
  rw [← hl, ← hD]
  have hDl : D ≠ l := by omega
  have hLD : ∀ p ∈ L, p.1 ≠ D := fun p hp => by have := hlt p hp; omega
  have hLl : ∀ p ∈ L, p.1 ≠ l := fun p hp => by have := hlt p hp; omega
  have hfl : ∀ {k : Nat} {st : LoopState} {pe : Option Code} {L' : List (Nat × Obj)} {W : World}, (∀ p ∈ L', p.1 ≠ l) → ∀ (o : Obj), I k ((l, .loop (rec st pe)) :: (L' ++ (D, dfr) :: L)) W → I k ((l, o) :: (L' ++ (D, dfr) :: L)) (W.putObj l o) :=
    fun hL' o h => (hI _).upd h (fun p hp => by
      rcases List.mem_append.1 hp with hp | hp
      · exact hL' p hp
      · rcases List.mem_cons.1 hp with rfl | hp
        · exact hDl
        · exact hLl p hp) (World.putObj_heap_same ((hI _).toKeep.lt h (List.mem_cons_self ..))) (grownBy_putObj _ _ _)
  have hfx : ∀ {c : Code} {st : LoopState} {pe : Option Code} {W : World} (o : Obj), Ix c ((l, .loop (rec st pe)) :: (D, dfr) :: L) W → Ix c ((l, o) :: (D, dfr) :: L) (W.putObj l o) :=
    fun o h => (hIx _).upd h (fun p hp => by
      rcases List.mem_cons.1 hp with rfl | hp
      · exact hDl
      · exact hLl p hp) (World.putObj_heap_same ((hIx _).toKeep.lt h (List.mem_cons_self ..))) (grownBy_putObj _ _ _)
  refine (hseq l (fun k L' W => (∀ p ∈ L', p.1 ≠ l) ∧ I k ((l, .loop (rec .ready none)) :: (L' ++ (D, dfr) :: L)) W) (fun W => ∃ c, Ix c ((l, .loop (rec .done (some c))) :: (D, dfr) :: L) W) L _ ?_ hL0 (fun k L' W' h => hP k _ W' (fun p hp => by simp [hp]) h.2) ?_ ?_).mono ?_
  · intro k
    refine ⟨fun {L W W' q o} h hb hq ho => ⟨fun p hp => ?_, ?_⟩, fun h hb => ⟨h.1, (hI k).toKeep.next h.2 hb⟩, fun h hp => (hI k).toKeep.get h.2 (by simp [hp]), fun {L L' W} h hs => ⟨fun p hp => h.1 p (hs p hp), (hI k).toKeep.sub h.2 fun p hp => ?_⟩⟩
    · rcases List.mem_cons.1 hp with rfl | hp
      · have h5 := (hI k).toKeep.lt h.2 (List.mem_cons_self ..)
        simp only at h5 ⊢
        omega
      · exact h.1 p hp
    · refine (hI k).toKeep.sub ((hI k).toKeep.fresh h.2 hb hq ho) fun p hp => ?_
      simp only [List.cons_append, List.mem_cons, List.mem_append] at hp ⊢
      rcases hp with rfl | rfl | hp | hp
      · exact .inr (.inl rfl)
      · exact .inl rfl
      · exact .inr (.inr (.inl hp))
      · exact .inr (.inr (.inr hp))
    · simp only [List.mem_cons, List.mem_append] at hp ⊢
      rcases hp with rfl | hp | hp
      · exact .inl rfl
      · exact .inr (.inl (hs p hp))
      · exact .inr (.inr hp)
  · exact ⟨hLl, (hI 0).toKeep.sub h1 fun p hp => by
      simp only [List.mem_cons, List.mem_append] at hp ⊢
      rcases hp with rfl | hp | rfl | hp
      · exact .inl rfl
      · exact .inr (.inr hp)
      · exact .inr (.inl rfl)
      · exact .inr (.inr hp)⟩
  · -- one round
    rintro k L' W hk ⟨hL', hi⟩
    have hrl := (hI k).toKeep.get hi (List.mem_cons_self ..)
    have hy := run_yield (P := P) (args := encs k) hrl (by rw [hrec]; exact hps k)
    rw [hrec] at hy
    refine ⟨fn, _, assign, body, hy, roundIn_of_wpIn hfn ?_⟩
    have hLM : ∀ (o : Obj), ∀ p ∈ L, p ∈ ((l, o) :: (L' ++ (D, dfr) :: L)) := fun o p hp => by simp [hp]
    have hlW := (hI k).toKeep.lt hi (List.mem_cons_self ..)
    simp only at hlW
    have hR : ∀ p ∈ (L' ++ (D, dfr) :: L), p.1 ≠ l := fun p hp => by
      rcases List.mem_append.1 hp with hp | hp
      · exact hL' p hp
      · rcases List.mem_cons.1 hp with rfl | hp
        · exact hDl
        · exact hLl p hp
    have hsub : ∀ (o : Obj), ∀ p ∈ ((l, o) :: (D, dfr) :: L), p ∈ ((l, o) :: (L' ++ (D, dfr) :: L)) := fun o p hp => by
      simp only [List.mem_cons, List.mem_append] at hp ⊢
      rcases hp with rfl | rfl | hp
      · exact .inl rfl
      · exact .inr (.inr (.inl rfl))
      · exact .inr (.inr (.inr hp))
    generalize hRR : (L' ++ (D, dfr) :: L) = R at hi hLM hR hsub
    refine wpIn_mono (hround l k ((l, .loop (rec .ready none)) :: R) W hk (hLM _) hi) ?_
    intro e a₁ w₁ hq
    cases e with
    | normal =>
      obtain ⟨M1, hi1, hM1, hbody⟩ := hq
      have hM1l : ∀ p ∈ M1, p.1 ≠ l := fun p hp => by have := hM1 p hp; omega
      have hi1' : I k ((l, .loop (rec .ready none)) :: (M1 ++ R)) w₁ := (hI k).toKeep.sub hi1 fun p hp => by
        simp only [List.mem_cons, List.mem_append] at hp ⊢
        rcases hp with rfl | hp | hp
        · exact .inr (.inl rfl)
        · exact .inl hp
        · exact .inr (.inr hp)
      have hrl1 := (hI k).toKeep.get hi1' (List.mem_cons_self ..)
      refine ⟨_, run_beginRound hrl1 (hst _ _), ?_⟩
      rw [hr1]
      have hi2 := (hI k).upd (o' := .loop (rec .busy none)) hi1' (fun p hp => (List.mem_append.1 hp).elim (hM1l p) (hR p)) (World.putObj_heap_same ((hI k).toKeep.lt hi1' (List.mem_cons_self ..))) (grownBy_putObj _ _ _)
      have hi2' : I k (M1 ++ ((l, .loop (rec .busy none)) :: R)) (w₁.putObj l (.loop (rec .busy none))) := (hI k).toKeep.sub hi2 fun p hp => by
        simp only [List.mem_cons, List.mem_append] at hp ⊢
        rcases hp with hp | rfl | hp
        · exact .inr (.inl hp)
        · exact .inl rfl
        · exact .inr (.inr hp)
      refine wpIn_mono (hbody ((l, .loop (rec .busy none)) :: R) _ (hLM _) hi2') ?_
      have jump : ∀ (c : Code) (W3 : World), Ix c ((l, .loop (rec .busy none)) :: R) W3 → ∃ v w', (Instr.endRound l (some c)).run P W3 = .ok v w' ∧
          ((Ending.returned v = .returned (.bool true) ∧ (∀ p ∈ L', p.1 ≠ l) ∧ I (k + 1) ((l, .loop (rec .ready none)) :: R) w') ∨
            (Ending.returned v = .returned (.bool false) ∧ ∃ c, Ix c ((l, .loop (rec .done (some c))) :: (D, dfr) :: L) w')) := fun c W3 h => by
        have hg3 := (hIx c).toKeep.get h (List.mem_cons_self ..)
        refine ⟨_, _, run_endRound (some c) hg3, .inr ⟨rfl, c, ?_⟩⟩
        rw [hr2]
        exact (hIx c).toKeep.sub ((hIx c).upd (o' := .loop (rec .done (some c))) h hR (World.putObj_heap_same ((hIx c).toKeep.lt h (List.mem_cons_self ..))) (grownBy_putObj _ _ _)) (hsub _)
      intro e3 a3 W3 h3
      cases e3 with
      | normal =>
        have hg3 := (hI (k + 1)).toKeep.get h3 (List.mem_cons_self ..)
        refine ⟨_, _, run_endRound none hg3, .inl ⟨rfl, hL', ?_⟩⟩
        rw [hr2]
        exact (hI (k + 1)).upd h3 hR (World.putObj_heap_same ((hI (k + 1)).toKeep.lt h3 (List.mem_cons_self ..))) (grownBy_putObj _ _ _)
      | ret => exact jump .ret W3 h3
      | exit id => exact jump (.exit id) W3 h3
      | goto t => exact jump (.goto t) W3 h3
      | panic ch => exact h3.elim
      | outgrown => exact h3.elim
    | ret => exact hq.elim
    | exit id => exact hq.elim
    | goto t => exact hq.elim
    | panic ch => exact hq.elim
    | outgrown => exact hq.elim
  · -- behind the iterator
    subst hdfr
    rintro e W2 ⟨⟨v, rfl⟩, (⟨hL', hi⟩ | ⟨c, hi⟩)⟩
    · have hrl := (hI N).toKeep.get hi (List.mem_cons_self ..)
      refine ⟨none, _, ?_, hdone D (W2.putObj l (.loop (rec .exhausted none))) hLD ((hI N).toKeep.sub (hfl hL' (.loop (rec .exhausted none)) hi) fun p hp => ?_)⟩
      · have := run_endLoop (P := P) hrl (by rw [hst]; simp)
        rwa [hr1, show (rec .ready none).pending = none by rw [hrec]] at this
      · simp only [List.mem_cons, List.mem_append] at hp ⊢
        exact .inr (.inr hp)
    · have hrl := (hIx c).toKeep.get hi (List.mem_cons_self ..)
      refine ⟨some c, _, ?_, hstop D c (W2.putObj l (.loop (rec .exhausted (some c)))) hLD ((hIx c).toKeep.sub (hfx (.loop (rec .exhausted (some c))) hi) fun p hp => ?_)⟩
      · have := run_endLoop (P := P) hrl (by rw [hst]; simp)
        rwa [hr1, show (rec .done (some c)).pending = some c by rw [hrec]] at this
      · simp only [List.mem_cons] at hp ⊢
        exact .inr hp

/-! ### the call's own disk -/
theorem keeps_dat {w : World} {d T : Nat} {s : Dk} : Keeps (fun L W => Dat w d T s L W) where
  fresh := fun {L W W' q o} h hb hq ho => by
    obtain ⟨S, h1, h2, h3⟩ := h
    refine ⟨S, h1.turns (Turns.of_below hb) (S' := fun _ => False) (fun _ _ x => x), h2.trans (Own.same (Turns.of_below hb)), fun p hp => ?_⟩
    rcases List.mem_cons.1 hp with rfl | hp
    · exact ⟨Nat.le_trans h2.1.size hq, fun x => by have := h1.lt _ x; simp only at this; omega, ho⟩
    · obtain ⟨a, b, c⟩ := h3 p hp
      exact ⟨a, b, (hb.block _ (Array.getElem?_eq_some_iff.1 c).1).trans c⟩
  next := fun h hb => h.next hb
  get := fun h hp => h.get hp
  sub := fun ⟨S, h1, h2, h3⟩ hs => ⟨S, h1, h2, fun p hp => h3 p (hs p hp)⟩
  upd := fun h hne ho hg => h.upd hne ho hg
end Go.Proofs.YtepjfkmbmcfnoaaDoor

namespace Go.Proofs.YtepjfkmbmcfnoaaDoor
open Go.RowKit
set_option maxRecDepth 100000

/-- What stands in a slot behind the counts: how many bytes there are, and the bytes. -/
def slotRow (bs : List UInt8) : List UInt8 := Oct.be 2 bs.length ++ bs
/-- Sector i of the part of it that is cut into 120 bytes each. -/
def partOf (bs : List UInt8) (i : Nat) : List UInt8 := ((slotRow bs).drop (120 * i)).take 120
def sect (count : Nat) (bs : List UInt8) (i : Nat) : List UInt8 := Oct.be 8 count ++ (partOf bs i ++ List.replicate (120 - (partOf bs i).length) 0)
theorem partOf_le (bs : List UInt8) (i : Nat) : (partOf bs i).length ≤ 120 := by unfold partOf; rw [List.length_take]; omega
theorem sect_length (count : Nat) (bs : List UInt8) (i : Nat) : (sect count bs i).length = 128 := by
  have := partOf_le bs i
  simp only [sect, List.length_append, Oct.be_length, List.length_replicate]
  omega
theorem slotRow_length (bs : List UInt8) : (slotRow bs).length = bs.length + 2 := by simp only [slotRow, List.length_append, Oct.be_length]; omega

/-- append of bytes that are read onto a row of the call's own: as a step of a region. -/
theorem step_append_oct {w : World} {ops : Array Oper} {o : Oper} {a : Act} {K : Act → World → Prop} {Q : Exit → Act → World → Prop} {E : Prop} (hgd : o.guard = none) (s x : Operand)
    (ho : o.op = Op.call { callee := Callee.builtin Builtin.append, args := #[s, x], argTypes := #[29, 29] })
    (B n m c : Nat) (v : Value) (A : Option Addr) (xs bs : List UInt8) (hs : a.eval s = v) (hx : a.eval x = .slice A m c)
    (hown : w.ownsRow B 5 1 v n (u8s xs)) (hr : Oct.Rd w A m bs) (hsl : Oct.Sl A m c) (hB : B ≤ w.heap.size) (hm : n + m ≤ 140737488355328)
    (h : ∀ A' c' w', Hid (w'.ownsRow B 5 1 (.slice A' (n + m) c') (n + m) (u8s (xs ++ bs)) ∧ Oct.Sl A' (n + m) c') → Hid (w.grownBy w' v.ownBlock) → K (a.put o.dst (.slice A' (n + m) c')) w') :
    if Region.wanted o (yielded ops a.tmps) = true then Oper.wp Tryd.prog o a w K Q else E := by
  have hw : Region.wanted o (yielded ops a.tmps) = true := by simp [Region.wanted, hgd]
  rw [if_pos hw]
  obtain ⟨i0, hi, hz0, hz1, hz2⟩ := info_parts Oct.Tryd.info5
  rcases A with _ | ad
  · obtain ⟨rfl, rfl⟩ := hsl.1 rfl
    have hbs : bs = [] := List.eq_nil_of_length_eq_zero hr.1
    subst hbs
    obtain ⟨A', c', rfl, hsl'⟩ := Oct.own_shape hown
    have hrun := run_append_owned_none (P := Tryd.prog) w B 29 o.type 5 i0 1 Tryd.underlying29 hi _ n _ hown
    unfold Oper.wp
    simp [execOp, ho, resolve, invoke, builtin, hs, hx, hrun, Result.andThen]
    have h2 := h A' c' w ⟨by simpa using hown, by simpa using hsl'⟩ (World.grownBy.refl w _)
    rw [Nat.add_zero] at h2
    exact h2
  · have hl : (u8s bs).length = m * 1 := by rw [u8s_length, hr.1]; omega
    refine wp_append_own w s x 29 ho B 5 i0 (.int .u8 0) 1 1 Tryd.underlying29 hi hz0 hz1 hz2 rfl (by decide) v n _ hs hown ad m c (u8s bs) hx hl ?_ (u8s_one bs) (by unfold maxLen; omega) (by omega) hB ?_
    · intro j u hu
      have hp : 0 < (u8s bs).length := by have := (List.getElem?_eq_some_iff.1 hu).1; omega
      obtain ⟨ad2, had, hc⟩ := hr.src (Below.refl _ w) hp
      injection had with had
      subst had
      exact hc j u hu
    · intro v' w' hv' hg' _
      obtain ⟨A', c', rfl, hsl'⟩ := Oct.own_shape hv'
      exact h A' c' w' ⟨by rw [show u8s (xs ++ bs) = u8s xs ++ u8s bs by simp [u8s]]; exact hv', hsl'⟩ hg'

/-- A row of the call's own that is not empty lies in a block. -/
theorem own_block {w : World} {B n : Nat} {v : Value} {xs : List UInt8} (h : w.ownsRow B 5 1 v n (u8s xs)) (hp : 0 < n) :
    ∃ g cap cur, v = .slice (some ⟨g, 0, none⟩) n cap ∧ B ≤ g ∧ n ≤ cap ∧ cap ≤ 9223372036854775807 ∧ w.heap[g]? = some (.cells cur 5 (0, 0)) ∧ ∀ W : World, W.heap[g]? = some (.cells cur 5 (0, 0)) → Oct.Rd W (some ⟨g, 0, none⟩) n xs := by
  obtain ⟨h1, h2⟩ := h
  rcases h2 with ⟨_, h0⟩ | ⟨g, cap, cur, rfl, hB, hg, hn, hm, r⟩
  · omega
  · exact ⟨g, cap, cur, rfl, hB, hn, by unfold maxLen at hm; omega, hg, fun W hW => Oct.Rd.of_own (B := B) (c := cap) ⟨h1, .inr ⟨g, cap, cur, rfl, hB, hW, hn, hm, r⟩⟩⟩

/-- What stays is read in whatever world. -/
theorem oper_wide {P : Program} {o : Oper} {a : Act} {w : World} {next : Act → World → Prop} {Q : Exit → Act → World → Prop} {n : Nat} (h : o.wp P a w next Q) : o.wpIn Fence.wide n P a w next Q := by
  refine ⟨fun _ _ => trivial, ?_⟩
  have e : (o.semAt Fence.wide.round a.eval) = execOp a.eval o := rfl
  rw [e]
  unfold Oper.wp at h
  generalize (execOp a.eval o).run P w = r at h ⊢
  cases r with
  | ok x w' =>
    cases x with
    | value v => exact h
    | skip => exact h
    | defer d => exact h
    | enter f args =>
      refine ⟨fun h => by simp [Fence.wide] at h, (callsIn_wide (n := n - 1)).2 (h.mono fun E w'' hE => ?_)⟩
      cases E with
      | returned v => exact hE
      | panicked c => exact hE
      | outgrown => exact hE
    | row row args => exact ⟨fun h => by simp [Fence.wide] at h, rowsIn_wide h⟩
    | round => exact h.elim
    | _ => exact False.elim h
  | halt x w' =>
    cases x with
    | panic v => exact h
    | _ => exact h.elim

theorem part_src {w : World} {A : Option Addr} {m k : Nat} {bs : List UInt8} (h : Oct.Rd w A m ((slotRow bs).drop (120 * k))) (hp : 0 < (u8s (partOf bs k)).length) :
    ∃ ad, A = some ad ∧ ∀ j v, (u8s (partOf bs k))[j]? = some v → w.cell? (ad.add j) = some v := by
  have hl : 0 < (u8s ((slotRow bs).drop (120 * k))).length := by
    rw [u8s_length] at hp ⊢
    unfold partOf at hp
    rw [List.length_take] at hp
    omega
  obtain ⟨ad, hA, hc⟩ := h.src (Below.refl _ w) hl
  refine ⟨ad, hA, fun j v hv => hc j v ?_⟩
  have hj : j < (partOf bs k).length := by have := (List.getElem?_eq_some_iff.1 hv).1; rwa [u8s_length] at this
  have hj2 := partOf_le bs k
  simp only [u8s, partOf, List.getElem?_map, List.getElem?_take] at hv ⊢
  rwa [if_pos (by omega)] at hv
theorem drop_next (bs : List UInt8) (k m : Nat) (hm : m = ((slotRow bs).drop (120 * k)).length) : ((slotRow bs).drop (120 * k)).drop (min 120 m) = (slotRow bs).drop (120 * (k + 1)) := by
  rw [List.length_drop] at hm
  rw [List.drop_drop]
  by_cases h : 120 ≤ m
  · rw [Nat.min_eq_left h]; congr 1
  · rw [List.drop_of_length_le (by omega), List.drop_of_length_le (by omega)]
/-- What is left of a slot's bytes behind a sector. -/
theorem next_rest {bs : List UInt8} {k m cm jj : Nat} {B : Option Addr} {Hp : World → Prop} (hsl : Oct.Sl B m cm) (hM : m = ((slotRow bs).drop (120 * k)).length ∧ ∀ W, Hp W → Oct.Rd W B m ((slotRow bs).drop (120 * k))) (hj : jj = min 120 m) :
    Oct.Sl (if cm = jj then B else B.map (·.add jj)) (m - jj) (cm - jj) ∧ (m - jj = ((slotRow bs).drop (120 * (k + 1))).length ∧ ∀ W, Hp W → Oct.Rd W (if cm = jj then B else B.map (·.add jj)) (m - jj) ((slotRow bs).drop (120 * (k + 1)))) := by
  have hjm : jj ≤ m := by omega
  refine ⟨hsl.cut (by omega), ?_, fun W h => ?_⟩
  · have := hM.1
    rw [List.length_drop] at this ⊢
    omega
  · rw [← drop_next bs k m hM.1, ← hj]
    exact (hM.2 W h).cut hjm hsl.2.1
theorem splice_sect (count : Nat) (bs : List UInt8) (k : Nat) : splice (splice (u8s zeros) 0 (u8s (Oct.be 8 count))) 8 (u8s (partOf bs k)) = u8s (sect count bs k) := by
  have h1 : (u8s (Oct.be 8 count)).length = 8 := by rw [u8s_length, Oct.be_length]
  have h2 := partOf_le bs k
  have e1 : splice (u8s zeros) 0 (u8s (Oct.be 8 count)) = u8s (Oct.be 8 count) ++ u8s (List.replicate 120 0) := by
    simp only [splice, List.take_zero, List.nil_append, h1, Nat.zero_add]
    rfl
  rw [e1]
  simp only [splice, sect]
  rw [List.take_append_of_le_length (by omega), List.take_of_length_le (by omega), List.drop_append, h1, List.drop_of_length_le (by rw [h1]; omega), List.nil_append, u8s_length,
    show 8 + (partOf bs k).length - 8 = (partOf bs k).length by omega]
  simp only [u8s, List.map_append, List.map_replicate, List.drop_replicate]
end Go.Proofs.YtepjfkmbmcfnoaaDoor

namespace Go.Proofs.YtepjfkmbmcfnoaaDoor
open Go.RowKit
set_option maxRecDepth 100000
attribute [local go_sem] Oper.semAt_some

set_option maxHeartbeats 4000000 in
theorem sectors_goes (A : Option Addr) (n c : Nat) (bs : List UInt8) (count g1 g2 : Nat) (hs : Oct.Sl A n c) (hn : n ≤ 1100) (hlen : bs.length = n) :
    Goes Tryd.prog 83 #[.pointer (some ⟨g1, 0, none⟩), .pointer (some ⟨g2, 0, none⟩)] (fun k => #[.int .i64 (k : Int), .agg (u8s (sect count bs k)).toArray]) 10
      [(g1, .cells #[.slice A n c] 29 (0, 0)), (g2, .cells #[.int .u64 (count : Int)] 35 (0, 0))] (fun W => Oct.Rd W A n bs) := by
  intro l J Jx L W hJ hL hP h0 hY
  have HS := Lib.hid hs
  have HJ := Lib.hid hJ
  have HY := Lib.hid hY
  have HP := Lib.hid hP
  have HG1 : Hid (∀ k L' W, J k L' W → (∀ p ∈ L, p ∈ L') → W.cell? ⟨g1, 0, none⟩ = some (.slice A n c)) := Lib.hid fun k L' W h hl => block_cell (C := [.slice A n c]) ((hJ k).get h (hl _ (hL _ (.head _)))) 0 _ rfl
  have HG2 : Hid (∀ k L' W, J k L' W → (∀ p ∈ L, p ∈ L') → W.cell? ⟨g2, 0, none⟩ = some (.int .u64 (count : Int))) := Lib.hid fun k L' W h hl => block_cell (C := [.int .u64 (count : Int)]) ((hJ k).get h (hl _ (hL _ (.tail _ (.head _))))) 0 _ rfl
  have H0 := Lib.hid h0
  have HLN := Lib.hid hlen
  have hwr : IntKind.u16.wrap (n : Int) = (n : Int) := by rw [IntKind.wrap_u16]; omega
  clear hs hJ hY hP h0 hL hlen
  refine callsIn_of_wp Tryd.func83 rfl trivial ?_ rfl
  simp only [Tryd.ntmps83, List.size_toArray, List.length_cons, List.length_nil, Nat.reduceAdd, Nat.reduceSub, Array.replicate_succ, Array.replicate_zero, List.push_toArray, List.append_toArray, List.nil_append, List.cons_append]
  refine wpIn_seq_k (fun K hK => ?_)
  have HK := Lib.hid hK
  clear hK
  refine wpIn_wide.2 ?_
  refine wp_region_any (by kernel_rfl) ?_
  change wpAny _ _ _ _ _ _ _ (W.drewN 1)
  have H1 : Hid (J 0 L (W.drewN 1)) := Lib.hid ((HJ.out 0).next H0.out ⟨rfl, rfl, rfl, Nat.le_refl _, fun _ _ => rfl⟩)
  clear H0
  generalize W.drewN 1 = w1 at H1 ⊢
  refine wpAny_of_held (S := fun W => W.cell? ⟨g1, 0, none⟩ = some (.slice A n c)) _ _ _ _ ?_
  refine wpAnyH_take (i := 0) (oi := { dst := some 7, op := Op.load 29 (Operand.tmp 1), type := 29, pos := "cell.go:157", after := #[], guard := none }) (v := .slice A n c) rfl (by kernel_rfl) (by kernel_rfl) (by kernel_rfl) (fun _ _ _ h => h) (Or.inl ⟨by kernel_rfl, fun W hSW => by have hcv := hSW; go_simp⟩) (HG1.out _ _ _ H1.out (fun _ h => h)) ?_
  simp only [Act.put, List.setIfInBounds_toArray, List.set_cons_zero, List.set_cons_succ]
  refine wpAnyH_take (i := 1) (oi := { dst := some 8, op := Op.call { callee := Callee.builtin Builtin.len, args := #[Operand.tmp 7], argTypes := #[29] }, type := 3, pos := "cell.go:157", after := #[{ on := 0, ground := Ground.data }], guard := none }) (v := .int .i64 (n : Int)) rfl (by kernel_rfl) (by kernel_rfl) (by kernel_rfl) (fun _ _ _ h => h) (Or.inl ⟨by kernel_rfl, fun W hSW => by go_simp⟩) (HG1.out _ _ _ H1.out (fun _ h => h)) ?_
  simp only [Act.put, List.setIfInBounds_toArray, List.set_cons_zero, List.set_cons_succ]
  refine wpAnyH_take (i := 2) (oi := { dst := some 9, op := Op.convert 3 133 (Operand.tmp 8), type := 133, pos := "cell.go:157", after := #[{ on := 1, ground := Ground.data }], guard := none }) (v := .int .u16 (n : Int)) rfl (by kernel_rfl) (by kernel_rfl) (by kernel_rfl) (fun _ _ _ h => h) (Or.inl ⟨by kernel_rfl, fun W hSW => by have hwr := hwr; go_simp⟩) (HG1.out _ _ _ H1.out (fun _ h => h)) ?_
  simp only [Act.put, List.setIfInBounds_toArray, List.set_cons_zero, List.set_cons_succ]
  refine wpAnyH_take (i := 4) (oi := { dst := some 11, op := Op.load 29 (Operand.tmp 1), type := 29, pos := "cell.go:157", after := #[], guard := none }) (v := .slice A n c) rfl (by kernel_rfl) (by kernel_rfl) (by kernel_rfl) (fun _ _ _ h => h) (Or.inl ⟨by kernel_rfl, fun W hSW => by have hcv := hSW; go_simp⟩) (HG1.out _ _ _ H1.out (fun _ h => h)) ?_
  simp only [Act.put, List.setIfInBounds_toArray, List.set_cons_zero, List.set_cons_succ]
  refine wpAnyH_ready (rs := [3]) (by kernel_rfl) (by simp) ?_
  refine AllReadyH.cons (o := { dst := some 10, op := Op.call { callee := Callee.value (Operand.func 84), args := #[Operand.const (Value.slice none 0 0), Operand.tmp 9], argTypes := #[29, 133] }, type := 29, pos := "cell.go:157", after := #[{ on := 2, ground := Ground.data }], guard := none }) rfl (fun K' hK' => ?_) AllReadyH.nil
  go_simp
  go_at_call 84
  refine (Oct.half_any none 0 0 [] n w1 ⟨rfl, fun h => absurd h (by omega)⟩ (by omega)).mono ?_
  rintro E w2 ⟨g, c', rfl, ho, hb⟩
  have H2 : Hid (J 0 L w2) := Lib.hid ((HJ.out 0).next H1.out hb)
  have HO := Lib.hid ho
  clear ho
  refine hK'.out _ _ (HG1.out _ _ _ H2.out (fun _ h => h)) (fun _ => ?_)
  clear hK' K'
  refine wpAnyH_ready (rs := [5]) (by kernel_rfl) (by simp) ?_
  refine AllReadyH.cons (o := { dst := some 12, op := Op.call { callee := Callee.builtin Builtin.append, args := #[Operand.tmp 10, Operand.tmp 11], argTypes := #[29, 29] }, type := 29, pos := "cell.go:157", after := #[{ on := 3, ground := Ground.data }, { on := 4, ground := Ground.data }, { on := 3, ground := Ground.chain }], guard := none }) rfl (fun K' hK' => ?_) AllReadyH.nil
  refine step_append_oct rfl (.tmp 10) (.tmp 11) rfl w1.heap.size 2 n c _ A (Oct.be 2 n) bs rfl rfl HO.out (HP.out _ _ _ H2.out) HS.out hb.size (by omega) ?_
  intro A' c2 w3 h3 g3
  obtain ⟨g', cap, cur, hv, hB, hcap, hcap2, hg', hrow⟩ := own_block h3.out.1 (by omega)
  injection hv with hv1 hv2 hv3
  subst hv1 hv3
  have hb3 : Below w1.heap.size w1 w3 := hb.grown g3.out hb.size (fun k e => by injection e with e; subst e; exact (HO.out.lt _ rfl).1)
  have H3 : Hid (J 0 ((g', .cells cur 5 (0, 0)) :: L) w3) := Lib.hid ((HJ.out 0).fresh H1.out hb3 hB hg')
  have HRW : Hid (∀ W : World, W.heap[g']? = some (.cells cur 5 (0, 0)) → Oct.Rd W (some ⟨g', 0, none⟩) (n + 2) (slotRow bs)) := Lib.hid (by rw [slotRow, HLN.out, Nat.add_comm n 2]; exact hrow)
  clear hrow h3 g3 hg' HO
  refine hK'.out _ _ (HG1.out _ _ _ H3.out (fun _ h => .tail _ h)) (fun _ => ?_)
  clear hK' K' H2 hb hB hb3 H1
  refine wpAnyH_take (i := 6) (oi := { dst := some 4, op := Op.assign (Operand.tmp 12), type := 29, pos := "cell.go:157", after := #[{ on := 5, ground := Ground.data }, { on := 5, ground := Ground.chain }, { on := 0, ground := Ground.phase }, { on := 1, ground := Ground.phase }, { on := 2, ground := Ground.phase }, { on := 3, ground := Ground.phase }, { on := 4, ground := Ground.phase }, { on := 5, ground := Ground.phase }], guard := none }) (v := .slice (some ⟨g', 0, none⟩) (2 + n) c2) rfl (by kernel_rfl) (by kernel_rfl) (by kernel_rfl) (fun _ _ _ h => h) (Or.inl ⟨by kernel_rfl, fun W hSW => by go_simp⟩) (HG1.out _ _ _ H3.out (fun _ h => .tail _ h)) ?_
  simp only [Act.put, List.setIfInBounds_toArray, List.set_cons_zero, List.set_cons_succ]
  refine wpAnyH_done (by kernel_rfl) ?_ _
  refine HK.out _ _ ?_
  clear HK K
  have HW2 : Hid (2 + n = n + 2) := Lib.hid (Nat.add_comm _ _)
  rw [HW2.out]
  gi_wp2
  have hcap' : n + 2 ≤ c2 := by omega
  gi_loopw [4, 13] (fun v4 v13 wr => ∃ k : Nat, k ≤ 10 ∧ v13 = .int .i64 (k : Int) ∧ ∃ B m cm, v4 = .slice B m cm ∧ Oct.Sl B m cm ∧ Hid (m = ((slotRow bs).drop (120 * k)).length ∧ ∀ W : World, W.heap[g']? = some (.cells cur 5 (0, 0)) → Oct.Rd W B m ((slotRow bs).drop (120 * k))) ∧ ∃ L', Hid ((g', .cells cur 5 (0, 0)) ∈ L' ∧ ∀ p ∈ L, p ∈ L') ∧ Hid (J k L' wr)) (fun _ v13 _ => 10 - (intOf v13).toNat)
  case atStart => exact ⟨0, by omega, rfl, _, _, _, rfl, ⟨(fun h => by cases h), hcap', hcap2⟩, ⟨by rw [Nat.mul_zero, List.drop_zero, slotRow_length, HLN.out], fun W h => by rw [Nat.mul_zero, List.drop_zero]; exact HRW.out W h⟩, _, ⟨.head _, fun _ h => .tail _ h⟩, H3⟩
  case round =>
    clear H3 HRW hcap hcap' hcap2
    obtain ⟨k, hk, rfl, B, m, cm, rfl, hsl, HM, L', HL', HJk⟩ := hrel
    by_cases hkk : k < 10
    · obtain ⟨Z, hZ⟩ : ∃ Z, Z = u8s zeros := ⟨_, rfl⟩
      have hz : ∀ w, (zeroValue 61).run Tryd.prog w = .ok (.agg Z.toArray) w := by rw [hZ]; exact zero33
      have HZ := Lib.hid hZ
      have ZL : Hid (Z.length = 128) := Lib.hid (by rw [hZ, u8s_length]; rfl)
      clear hZ
      gi_wp2
      rename_i K5 hK5
      have HK5 := Lib.hid hK5
      clear hK5 hz
      refine wpIn_wide.2 ?_
      refine wp_region_any (by kernel_rfl) ?_
      change wpAny _ _ _ _ _ _ _ ((wr.alloc (.cells Z.toArray 61)).drewN 1)
      have B1 : Hid (Below wr.heap.size wr ((wr.alloc (.cells Z.toArray 61)).drewN 1)) := Lib.hid (((Below.refl _ wr).alloc (Nat.le_refl _) _).trans ⟨rfl, rfl, rfl, Nat.le_refl _, fun _ _ => rfl⟩)
      have Q1 : Hid (((wr.alloc (.cells Z.toArray 61)).drewN 1).heap[wr.heap.size]? = some (.cells Z.toArray 61 (0, 0))) := Lib.hid (row_new wr Z 61)
      generalize (wr.alloc (.cells Z.toArray 61)).drewN 1 = w1 at B1 Q1 ⊢
      have HS2 : Hid (∀ W, Below wr.heap.size wr W → W.cell? ⟨g2, 0, none⟩ = some (.int .u64 (count : Int))) := Lib.hid fun W hb => HG2.out _ _ _ ((HJ.out k).next HJk.out hb) HL'.out.2
      obtain ⟨q, hq⟩ : ∃ q, q = wr.heap.size := ⟨_, rfl⟩
      have HQ := Lib.hid hq
      rw [← hq] at Q1 ⊢
      clear hq
      refine wpAny_of_held (S := fun W => W.cell? ⟨g2, 0, none⟩ = some (.int .u64 (count : Int))) _ _ _ _ ?_
      refine wpAnyH_take (i := 0) (oi := { dst := some 16, op := Op.slice 61 (Operand.tmp 6) none none none, type := 29, pos := "cell.go:160", after := #[], guard := none }) (v := .slice (some ⟨q, 0, none⟩) 128 128) rfl (by kernel_rfl) (by kernel_rfl) (by kernel_rfl) (fun _ _ _ h => h) (Or.inl ⟨by kernel_rfl, fun W hSW => by go_simp⟩) (HS2.out _ B1.out) ?_
      simp only [Act.put, List.setIfInBounds_toArray, List.set_cons_zero, List.set_cons_succ]
      refine wpAnyH_take (i := 1) (oi := { dst := some 17, op := Op.load 35 (Operand.tmp 2), type := 35, pos := "cell.go:160", after := #[], guard := none }) (v := .int .u64 (count : Int)) rfl (by kernel_rfl) (by kernel_rfl) (by kernel_rfl) (fun _ _ _ h => h) (Or.inl ⟨by kernel_rfl, fun W hSW => by have hcv := hSW; go_simp⟩) (HS2.out _ B1.out) ?_
      simp only [Act.put, List.setIfInBounds_toArray, List.set_cons_zero, List.set_cons_succ]
      refine wpAnyH_ready (rs := [2]) (by kernel_rfl) (by simp) ?_
      refine AllReadyH.cons (o := { dst := some 18, op := Op.call { callee := Callee.value (Operand.func 23), args := #[Operand.const (Value.slice none 0 0), Operand.tmp 17], argTypes := #[29, 35] }, type := 29, pos := "cell.go:160", after := #[{ on := 1, ground := Ground.data }], guard := none }) rfl (fun K' hK' => ?_) AllReadyH.nil
      go_simp
      go_at_call 23
      refine (Oct.word_any none 0 0 [] count w1 ⟨rfl, fun h => absurd h (by omega)⟩ (by omega)).mono ?_
      rintro E w2 ⟨gw, cw, rfl, ho, hb⟩
      have B2 : Hid (Below wr.heap.size wr w2) := Lib.hid (B1.out.trans (hb.mono B1.out.size))
      have Q2 : Hid (w2.heap[q]? = some (.cells Z.toArray 61 (0, 0))) := Lib.hid ((hb.block q (Array.getElem?_eq_some_iff.1 Q1.out).1).trans Q1.out)
      have HO : Hid (Oct.Rd w2 (some ⟨gw, 0, none⟩) 8 (Oct.be 8 count)) := Lib.hid (Oct.Rd.of_own ho)
      clear ho hb B1 Q1
      refine hK'.out _ _ (HS2.out _ B2.out) (fun _ => ?_)
      clear hK' K'
      refine wpAnyH_ready (rs := [3]) (by kernel_rfl) (by simp) ?_
      refine AllReadyH.cons (o := { dst := some 19, op := Op.call { callee := Callee.builtin Builtin.copy, args := #[Operand.tmp 16, Operand.tmp 18], argTypes := #[29, 29] }, type := 3, pos := "cell.go:160", after := #[{ on := 0, ground := Ground.data }, { on := 2, ground := Ground.data }, { on := 2, ground := Ground.chain }], guard := none }) rfl (fun K' hK' => ?_) AllReadyH.nil
      refine step_copy_splice rfl (.tmp 16) (.tmp 18) 29 29 rfl 5 Tryd.underlying29 Tryd.size5 (some ⟨q, 0, none⟩) (some ⟨gw, 0, none⟩) 128 128 8 cw rfl rfl q 0 Z 61 Q2.out (u8s (Oct.be 8 count)) (by rw [u8s_length, Oct.be_length]; rfl) (fun hp => ⟨rfl, HO.out.src (Below.refl _ w2) hp⟩) (by rw [u8s_length, Oct.be_length, ZL.out]; omega) (u8s_one _) wr.heap.size wr B2.out (by rw [HQ.out]; exact Nat.le_refl _) ?_
      intro w3 Q3 b3
      have B3 := Lib.hid b3
      clear b3 B2 Q2 HO
      refine hK'.out _ _ (HS2.out _ B3.out) (fun _ => ?_)
      clear hK' K'
      refine wpAnyH_done (by kernel_rfl) ?_ _
      refine HK5.out _ _ ?_
      clear HK5 K5 HS2
      refine wpIn_seq_k (fun K6 hK6 => ?_)
      have HK6 := Lib.hid hK6
      clear hK6
      refine wpIn_wide.2 ?_
      obtain ⟨jj, hjj⟩ : ∃ jj, jj = (partOf bs k).length := ⟨_, rfl⟩
      have hj1 : jj = min 120 m := by rw [hjj, partOf, List.length_take, HM.out.1]
      have hsl1 := hsl.2.1
      have hsl2 := hsl.2.2
      have HN := Lib.hid (next_rest hsl HM.out hj1)
      have hjm : jj ≤ m := by omega
      have hj2 : jj ≤ 120 := by omega
      have HJ1 := Lib.hid hj1
      clear hsl hj1
      have UP : Hid ((u8s (partOf bs k)).length = jj) := Lib.hid (by rw [u8s_length, hjj])
      clear hjj
      go_wp2_with (first
        | ((refine wpList_copy_splice rfl (.tmp 21) (.tmp 22) 29 29 rfl 5 Tryd.underlying29 Tryd.size5 (some ⟨q, 8, none⟩) B 120 120 m cm rfl rfl q 8 (splice Z 0 (u8s (Oct.be 8 count))) 61 Q3.out (u8s (partOf bs k)) (by rw [UP.out, HJ1.out]; exact Nat.min_comm _ _) (fun hp => ⟨rfl, part_src (HM.out.2 w3 ((HJ.out k).get ((HJ.out k).next HJk.out B3.out) HL'.out.1)) hp⟩) (by rw [UP.out, length_splice _ _ _ (by rw [u8s_length, Oct.be_length, ZL.out]; omega), ZL.out]; omega) (u8s_one _) wr.heap.size wr B3.out (by rw [HQ.out]; exact Nat.le_refl _) ?_); intro w4 Q4 b4; rw [UP.out]))
      all_goals
        refine HK6.out _ _ ?_
        clear HK6 K6
        have J4 : J k ((q, .cells (u8s (sect count bs k)).toArray 61 (0, 0)) :: L') w4 := (HJ.out k).fresh HJk.out b4 (by rw [HQ.out]; exact Nat.le_refl _) (by have := Q4.out; rwa [HZ.out, splice_sect] at this)
        have R4 : Hid (w4.rangeAt q 0 (u8s (sect count bs k))) := Lib.hid (range_block ((HJ.out k).get J4 (.head _)) 0 _ (fun j v hv => by rw [Nat.zero_add]; exact hv))
        have UI : Hid ((Tryd.prog.info? 61).map (·.size) = some (u8s (sect count bs k)).length) := Lib.hid (by rw [u8s_length, sect_length]; exact Tryd.size61)
        obtain ⟨fn, tmps, assign, body, hy, hR⟩ := HY.out k _ w4 hkk J4
        clear Q4 b4 J4 UP HJ1 hjm hj2
        generalize sect count bs k = sx at hy hR R4 UI
        gi_wp2_with (first | (refine wpListIn_plain rfl fun KL hKL => oper_wide (wp_load_mid 61 (.tmp 6) rfl q 0 rfl (u8s sx) _ R4.out Tryd.underlying61 rfl UI.out ?_); refine hKL _ _ ?_; clear hKL KL))
        have HN1 := HN.out.1
        have HN2 := HN.out.2
        first | (rw [if_neg (by omega)] at HN1 HN2) | (rw [if_pos (by omega), show cm - jj = 0 by omega] at HN1; rw [if_pos (by omega)] at HN2)
        have HS1 := Lib.hid HN1
        have HS3 := Lib.hid HN2
        clear HN1 HN2 HN
        refine ⟨rfl, hR.mono ?_⟩
        clear hy hR
        rintro e W' (⟨rfl, hJ'⟩ | ⟨rfl, hJx'⟩)
        · have HJ' := Lib.hid hJ'
          clear hJ'
          gi_wp2
          go_roundw
          case measure => simp [intOf]; omega
          case rel => exact ⟨k + 1, by omega, by go_num, _, _, _, rfl, HS1.out, HS3.out, _, ⟨.tail _ HL'.out.1, fun p h => .tail _ (HL'.out.2 p h)⟩, HJ'⟩
        · gi_wp2
          refine bodyPost_ret (results_none rfl _ _ _) rfl ?_
          exact ⟨⟨_, rfl⟩, .inr hJx'⟩
    · obtain rfl : k = 10 := by omega
      gi_wp2
      go_end0
      exact ⟨⟨_, rfl⟩, .inl ((HJ.out 10).sub HJk.out HL'.out.2)⟩
end Go.Proofs.YtepjfkmbmcfnoaaDoor

namespace Go.Proofs.YtepjfkmbmcfnoaaDoor
open Go.RowKit
set_option maxRecDepth 100000
attribute [local go_sem] Oper.semAt_some

/-! ### what stays, more of it -/
theorem keeps_aside {J : List (Nat × Obj) → World → Prop} (K : Keeps J) (q : Nat) (o : Obj) : Keeps (fun M W => (∀ p ∈ M, p.1 ≠ q) ∧ J ((q, o) :: M) W) where
  fresh := fun {L W W' q' o'} h hb hq ho => by
    have hlt := K.toKeep.lt h.2 (List.mem_cons_self ..)
    simp only at hlt
    refine ⟨fun p hp => ?_, K.toKeep.sub (K.toKeep.fresh h.2 hb hq ho) fun p hp => ?_⟩
    · rcases List.mem_cons.1 hp with rfl | hp
      · simp only; omega
      · exact h.1 p hp
    · simp only [List.mem_cons] at hp ⊢
      rcases hp with rfl | rfl | hp
      · exact .inr (.inl rfl)
      · exact .inl rfl
      · exact .inr (.inr hp)
  next := fun h hb => ⟨h.1, K.toKeep.next h.2 hb⟩
  get := fun h hp => K.toKeep.get h.2 (.tail _ hp)
  sub := fun h hs => ⟨fun p hp => h.1 p (hs p hp), K.toKeep.sub h.2 fun p hp => by
    rcases List.mem_cons.1 hp with rfl | hp
    · exact .head _
    · exact .tail _ (hs p hp)⟩
  upd := fun {L W W' q' o1 o2} h hne ho hg => by
    have hqq : q' ≠ q := h.1 _ (List.mem_cons_self ..)
    refine ⟨fun p hp => ?_, K.toKeep.sub (K.upd (q := q') (o := o1) (L := (q, o) :: L) (K.toKeep.sub h.2 fun p hp => ?_) (fun p hp => ?_) ho hg) fun p hp => ?_⟩
    · rcases List.mem_cons.1 hp with rfl | hp
      · exact hqq
      · exact h.1 p (.tail _ hp)
    · simp only [List.mem_cons] at hp ⊢
      rcases hp with rfl | rfl | hp
      · exact .inr (.inl rfl)
      · exact .inl rfl
      · exact .inr (.inr hp)
    · rcases List.mem_cons.1 hp with rfl | hp
      · exact fun e => hqq e.symm
      · exact hne p hp
    · simp only [List.mem_cons] at hp ⊢
      rcases hp with rfl | rfl | hp
      · exact .inr (.inl rfl)
      · exact .inl rfl
      · exact .inr (.inr hp)
theorem keeps_ex {α : Type} {J : α → List (Nat × Obj) → World → Prop} (K : ∀ i, Keeps (J i)) : Keeps (fun M W => ∃ i, J i M W) where
  fresh := fun ⟨i, h⟩ hb hq ho => ⟨i, (K i).toKeep.fresh h hb hq ho⟩
  next := fun ⟨i, h⟩ hb => ⟨i, (K i).toKeep.next h hb⟩
  get := fun ⟨i, h⟩ hp => (K i).toKeep.get h hp
  sub := fun ⟨i, h⟩ hs => ⟨i, (K i).toKeep.sub h hs⟩
  upd := fun ⟨i, h⟩ hne ho hg => ⟨i, (K i).upd h hne ho hg⟩
theorem keeps_and {p : Prop} {J : List (Nat × Obj) → World → Prop} (K : Keeps J) : Keeps (fun M W => p ∧ J M W) where
  fresh := fun h hb hq ho => ⟨h.1, K.toKeep.fresh h.2 hb hq ho⟩
  next := fun h hb => ⟨h.1, K.toKeep.next h.2 hb⟩
  get := fun h hp => K.toKeep.get h.2 hp
  sub := fun h hs => ⟨h.1, K.toKeep.sub h.2 hs⟩
  upd := fun h hne ho hg => ⟨h.1, K.upd h.2 hne ho hg⟩

/-! ### writes, one behind the other -/
/-- What k writes do, sector x + i with what f says: at the first that has an error they end. -/
def wrs (s : Dk) (x : Int) (f : Nat → List UInt8) : Nat → Dk × Int
  | 0 => (s, 0)
  | k + 1 => if (wrs s x f k).2 ≠ 0 then wrs s x f k else (wrs s x f k).1.write (x + k) (f k)
theorem wrs_next {s : Dk} {x : Int} {f : Nat → List UInt8} {k : Nat} (h : (wrs s x f k).2 = 0) : wrs s x f (k + 1) = (wrs s x f k).1.write (x + k) (f k) := by rw [wrs, if_neg (by simp [h])]
theorem wrs_stuck {s : Dk} {x : Int} {f : Nat → List UInt8} {k : Nat} (h : (wrs s x f k).2 ≠ 0) : ∀ j, wrs s x f (k + j) = wrs s x f k
  | 0 => rfl
  | j + 1 => by rw [← Nat.add_assoc, wrs, wrs_stuck h j, if_pos h]

/-- The slice at A reads as the bytes bs while what lay below stays, and the blocks of L. -/
def Src (w : World) (L : List (Nat × Obj)) (A : Option Addr) (n : Nat) (bs : List UInt8) : Prop := ∀ W, Below w.heap.size w W → (∀ p ∈ L, W.heap[p.1]? = some p.2) → Oct.Rd W A n bs
theorem Src.rd {w W : World} {d T : Nat} {s : Dk} {L L' : List (Nat × Obj)} {A : Option Addr} {n : Nat} {bs : List UInt8} (h : Src w L A n bs) (hD : Dat w d T s L' W) (hs : ∀ p ∈ L, p ∈ L') : Oct.Rd W A n bs :=
  h W hD.below fun p hp => hD.get (q := p.1) (o := p.2) (hs p hp)

theorem sectors_any (count : Int) (A : Option Addr) (n c : Nat) (w : World) : Calls Tryd.prog 69 #[.int .u64 count, .slice A n c] w fun E w' =>
    E = .returned (.func (.func 83) #[] #[.pointer (some ⟨w.heap.size + 1, 0, none⟩), .pointer (some ⟨w.heap.size, 0, none⟩)]) ∧ w' = (w.alloc (.cells #[.int .u64 count] 35)).alloc (.cells #[.slice A n c] 29) := by
  go_enter Tryd.func69, Tryd.ntmps69
  go_wp2
  go_ret
  exact ⟨by simp, rfl⟩
end Go.Proofs.YtepjfkmbmcfnoaaDoor
