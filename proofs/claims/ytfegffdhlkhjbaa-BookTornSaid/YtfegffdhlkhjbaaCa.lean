/-
  What is proved: a range over a function whose body may turn whatever it owns: one law for the statement, told by what stays. Conditions as stated.
-/
import Derived.Test.YtfegffdhlkhjbaaDh
import Derived.RangeFuncRecord
import Derived.RangeFuncSeq
namespace Go.Proofs.Ytfegffdhlkhjbaa
open Go.RowKit

/-! ### a plain walk serves in a round's frame -/
theorem rowsIn_wide {n : Nat} {P : Program} {row : String} {args : Array Value} {w : World} {R : Value → World → Prop} (h : Rows P row args w R) : RowsIn Fence.wide n P row args w R :=
  fun c cs _ => let ⟨v, w', r, s⟩ := h c cs; ⟨v, w', r, stepsIn_wide.2 s⟩

theorem oper_round {P : Program} {o : Oper} {a : Act} {w : World} {next next' : Act → World → Prop} {Q : Exit → Act → World → Prop} {l n : Nat} (hd : ∀ c, o.op ≠ .defer c) (hn : ∀ a w, next a w → next' a w)
    (h : o.wp P a w next Q) : o.wpIn (Fence.wide.inRound l) n P a w next' Q := by
  refine ⟨fun _ _ => trivial, ?_⟩
  have e : (o.semAt (Fence.wide.inRound l).round a.eval) = execOp a.eval o := Oper.semAt_some l _ _ hd
  rw [e]
  unfold Oper.wp at h
  generalize (execOp a.eval o).run P w = r at h ⊢
  cases r with
  | ok x w' =>
    cases x with
    | value v => exact hn _ _ h
    | skip => exact hn _ _ h
    | defer d => exact hn _ _ h
    | enter f args =>
      refine ⟨fun h => by simp [Fence.wide] at h, (callsIn_wide (n := n - 1)).2 (h.mono fun E w'' hE => ?_)⟩
      cases E with
      | returned v => exact hn _ _ hE
      | panicked c => exact hE
      | outgrown => exact hE
    | row row args => exact ⟨fun h => by simp [Fence.wide] at h, rowsIn_wide (h.mono fun v w'' hv => hn _ _ hv)⟩
    | round => exact h.elim
    | _ => exact False.elim h
  | halt x w' =>
    cases x with
    | panic v => exact h
    | _ => exact h.elim

theorem list_round {P : Program} {ops : Array Oper} {Q : Exit → Act → World → Prop} {l n : Nat} (hQ : ∀ a w, ¬ Q .outgrown a w) : ∀ (L : List Oper) (a : Act) (w : World), (∀ o ∈ L, ∀ c, o.op ≠ .defer c) → wpList P ops Q L a w → wpListIn (Fence.wide.inRound l) n P ops Q L a w
  | [], _, _, _, h => h
  | o :: r, a, w, hd, h => by
    unfold wpList at h
    unfold wpListIn
    by_cases hw : Region.wanted o (yielded ops a.tmps) = true
    · rw [if_pos hw] at h ⊢
      rcases h with h | ⟨_, a', w', h⟩
      · exact oper_round (hd o (by simp)) (fun a w h => list_round hQ r a w (fun o ho => hd o (by simp [ho])) h) h
      · exact (hQ _ _ h).elim
    · rw [if_neg hw] at h ⊢
      exact ⟨fun _ _ => trivial, list_round hQ r _ _ (fun o ho => hd o (by simp [ho])) h⟩

/-- A region that keeps its order, in a round: walked as anywhere. -/
theorem region_round {P : Program} {id : Nat} {L : List Oper} {Q : Exit → Act → World → Prop} {l n : Nat} {a : Act} {w : World} (hQ : ∀ a w, ¬ Q .outgrown a w) (hd : ∀ o ∈ L, ∀ c, o.op ≠ .defer c)
    (h : wpList P L.toArray Q L a w) : (Code.region id L.toArray false).wpIn (Fence.wide.inRound l) n P Q a w := wpIn_region_lit (list_round hQ L a w hd h)

/-! ### what stays -/
/-- What is told of a world stays when there is new memory, and blocks may be told of beside it. -/
structure Keep (J : List (Nat × Obj) → World → Prop) : Prop where
  fresh : ∀ {L W W' q o}, J L W → Below W.heap.size W W' → W.heap.size ≤ q → W'.heap[q]? = some o → J ((q, o) :: L) W'
  next : ∀ {L W W'}, J L W → Below W.heap.size W W' → J L W'
  get : ∀ {L W q o}, J L W → (q, o) ∈ L → W.heap[q]? = some o
  sub : ∀ {L L' W}, J L W → (∀ p ∈ L', p ∈ L) → J L' W
/-- .. and such a block may be written. -/
structure Keeps (J : List (Nat × Obj) → World → Prop) : Prop extends Keep J where
  upd : ∀ {L W W' q o o'}, J ((q, o) :: L) W → (∀ p ∈ L, p.1 ≠ q) → W'.heap[q]? = some o' → W.grownBy W' (some q) → J ((q, o') :: L) W'

theorem Keep.lt {J : List (Nat × Obj) → World → Prop} (K : Keep J) {L : List (Nat × Obj)} {W : World} {p : Nat × Obj} (h : J L W) (hp : p ∈ L) : p.1 < W.heap.size := (Array.getElem?_eq_some_iff.1 (K.get h hp)).1
theorem Keep.alloc {J : List (Nat × Obj) → World → Prop} (K : Keep J) {L : List (Nat × Obj)} {W : World} (h : J L W) (o : Obj) : J ((W.heap.size, o) :: L) (W.alloc o) :=
  K.fresh h ((Below.refl _ W).alloc (Nat.le_refl _) o) (Nat.le_refl _) (heap_alloc_new W o)

theorem grownBy_putObj (W : World) (l : Nat) (o : Obj) : W.grownBy (W.putObj l o) (some l) :=
  ⟨rfl, rfl, rfl, by simp, fun k _ hk => World.putObj_heap_other (fun e => hk (by rw [e]))⟩

/-- THE CONTRACT OF A FUNCTION THAT IS RANGED OVER, N rounds at most, round k at 'encs k'. -/
def Goes (P : Program) (gf : Nat) (lb : Array Value) (encs : Nat → Array Value) (N : Nat) (L0 : List (Nat × Obj)) (Pj : World → Prop) : Prop :=
  ∀ (l : Nat) (J : Nat → List (Nat × Obj) → World → Prop) (Jx : World → Prop) (L : List (Nat × Obj)) (W : World), (∀ k, Keep (J k)) → (∀ p ∈ L0, p ∈ L) → (∀ k L' W', J k L' W' → Pj W') → J 0 L W →
    (∀ k L' W', k < N → J k L' W' → YieldAt Fence.wide 0 P l (encs k) W' fun e W2 => (e = .returned (.bool true) ∧ J (k + 1) L' W2) ∨ (e = .returned (.bool false) ∧ Jx W2)) →
    CallsIn Fence.wide 0 P gf (#[.func (.yield l) #[] #[]] ++ lb) W fun e W' => (∃ v, e = .returned v) ∧ (J N L W' ∨ Jx W')

/-- How a round's body may be left. -/
def roundEnd (I : List (Nat × Obj) → World → Prop) (Ix : Code → List (Nat × Obj) → World → Prop) (L : List (Nat × Obj)) : Exit → Act → World → Prop
  | .normal, _, W => I L W
  | .ret, _, W => Ix .ret L W
  | .exit id, _, W => Ix (.exit id) L W
  | .goto t, _, W => Ix (.goto t) L W
  | .panic _, _, _ => False
  | .outgrown, _, _ => False

/-- THE STATEMENT: 'for .. := range g { .. }'. -/
theorem wp_rangeKeeps {P : Program} {g : Operand} {ps : Array Tmp} {assign body : Code} {Q : Exit → Act → World → Prop} {a : Act} {w : World}
    {gf : Nat} {lb : Array Value} (hg : a.eval g = .func (.func gf) #[] lb) (eg : ∀ args w, (callFunc gf args).run P w = .ok (.enter gf args) w)
    {encs : Nat → Array Value} {N : Nat} {L0 L : List (Nat × Obj)} {Pj : World → Prop} (hseq : Goes P gf lb encs N L0 Pj) (hL0 : ∀ p ∈ L0, p ∈ L) (hps : ∀ k, (encs k).size = ps.size)
    (I : Nat → List (Nat × Obj) → World → Prop) (Ix : Code → List (Nat × Obj) → World → Prop) (hI : ∀ k, Keeps (I k)) (hIx : ∀ c, Keeps (Ix c)) (h0 : I 0 L w) (hP : ∀ (k : Nat) (M : List (Nat × Obj)) (W : World), (∀ p ∈ L, p ∈ M) → I k M W → Pj W)
    (hround : ∀ (l k : Nat) (M : List (Nat × Obj)) (W : World), k < N → (∀ p ∈ L, p ∈ M) → I k M W →
      assign.wpIn (Fence.wide.inRound l) 0 P (Exit.then (fun a₁ w₁ => ∃ M1, I k (M1 ++ M) w₁ ∧ (∀ p ∈ M1, W.heap.size ≤ p.1) ∧ ∀ M' w₂, (∀ p ∈ L, p ∈ M') → I k (M1 ++ M') w₂ → body.wpIn (Fence.wide.inRound l) 0 P (roundEnd (I (k + 1)) Ix M') a₁ w₂) (fun _ _ _ => False))
        { tmps := (ps.zip (encs k)).foldl (fun t (p, v) => t.setIfInBounds p v) a.tmps, defers := [] } W)
    (hdone : ∀ (D : Nat) (W : World), (∀ p ∈ L, p.1 ≠ D) → I N ((D, .deferred (some [])) :: L) W → Q .normal { a with defers := { target := .collected D, args := #[] } :: a.defers } W)
    (hstop : ∀ (D : Nat) (c : Code) (W : World), (∀ p ∈ L, p.1 ≠ D) → Ix c ((D, .deferred (some [])) :: L) W → c.wpIn Fence.wide 0 P Q { a with defers := { target := .collected D, args := #[] } :: a.defers } W) :
    (Code.rangeFunc g ps assign body).wpIn Fence.wide 0 P Q a w := by
  refine wpIn_rangeFunc ?_
  intro fn hfn
  rw [Fence.wide_round]
  obtain ⟨rec, hrec⟩ : ∃ rec : LoopState → Option Code → Loop, rec = fun st pe => { state := st, pending := pe, fn, tmps := a.tmps, params := ps, assign, body, defers := w.heap.size } := ⟨_, rfl⟩
  have hst : ∀ st pe, (rec st pe).state = st := fun st pe => by rw [hrec]
  have hr1 : ∀ st pe st', { rec st pe with state := st' } = rec st' pe := fun st pe st' => by rw [hrec]
  have hr2 : ∀ st pe st' pe', { rec st pe with state := st', pending := pe' } = rec st' pe' := fun st pe st' pe' => by rw [hrec]
  have hlt : ∀ p ∈ L, p.1 < w.heap.size := fun p hp => (hI 0).toKeep.lt h0 hp
  obtain ⟨dfr, hdfr⟩ : ∃ dfr, dfr = Obj.deferred (some []) := ⟨_, rfl⟩
  have h1 : I 0 ((w.heap.size + 1, .loop (rec .ready none)) :: (w.heap.size, dfr) :: L) ((w.alloc dfr).alloc (.loop (rec .ready none))) := by
    have := (hI 0).toKeep.alloc ((hI 0).toKeep.alloc h0 dfr) (.loop (rec .ready none))
    rwa [World.size_alloc] at this
  refine ⟨w.heap.size + 1, [{ target := .collected w.heap.size, args := #[] }], (w.alloc dfr).alloc (.loop (rec .ready none)), { target := .fn (.func gf) lb, args := #[.func (.yield (w.heap.size + 1)) #[] #[]] }, (w.alloc dfr).alloc (.loop (rec .ready none)), gf,
    #[.func (.yield (w.heap.size + 1)) #[] #[]] ++ lb, (w.alloc dfr).alloc (.loop (rec .ready none)), ?_, ?_, ?_, ?_, fun h => by simp [Fence.wide] at h, ?_⟩
  · rw [hrec, hdfr]; exact run_enterLoop_outer _ _ _ _ _
  · simp only [resolve, hg]
    simp [go_sem]
  · intro _ _; exact trivial
  · simp [invoke, go_sem, eg]
  -- the iterator's contract
  obtain ⟨D, hD⟩ : ∃ D, D = w.heap.size := ⟨_, rfl⟩
  obtain ⟨l, hl⟩ : ∃ l, l = w.heap.size + 1 := ⟨_, rfl⟩
  rw [← hl, ← hD] at h1
  rw [← hl, ← hD]
  have hDl : D ≠ l := by omega
  have hLD : ∀ p ∈ L, p.1 ≠ D := fun p hp => by have := hlt p hp; omega
  have hLl : ∀ p ∈ L, p.1 ≠ l := fun p hp => by have := hlt p hp; omega
  have hfl : ∀ {k : Nat} {st : LoopState} {pe : Option Code} {L' : List (Nat × Obj)} {W : World}, (∀ p ∈ L', p.1 ≠ l) → ∀ (o : Obj), I k ((l, .loop (rec st pe)) :: (L' ++ (D, dfr) :: L)) W → I k ((l, o) :: (L' ++ (D, dfr) :: L)) (W.putObj l o) :=
    fun hL' o h => (hI _).upd h (fun p hp => by
      rcases List.mem_append.1 hp with hp | hp
      · exact hL' p hp
      · rcases List.mem_cons.1 hp with rfl | hp
        · exact hDl
        · exact hLl p hp) (World.putObj_heap_same ((hI _).toKeep.lt h (List.mem_cons_self ..))) (grownBy_putObj _ _ _)
  have hfx : ∀ {c : Code} {st : LoopState} {pe : Option Code} {W : World} (o : Obj), Ix c ((l, .loop (rec st pe)) :: (D, dfr) :: L) W → Ix c ((l, o) :: (D, dfr) :: L) (W.putObj l o) :=
    fun o h => (hIx _).upd h (fun p hp => by
      rcases List.mem_cons.1 hp with rfl | hp
      · exact hDl
      · exact hLl p hp) (World.putObj_heap_same ((hIx _).toKeep.lt h (List.mem_cons_self ..))) (grownBy_putObj _ _ _)
  refine (hseq l (fun k L' W => (∀ p ∈ L', p.1 ≠ l) ∧ I k ((l, .loop (rec .ready none)) :: (L' ++ (D, dfr) :: L)) W) (fun W => ∃ c, Ix c ((l, .loop (rec .done (some c))) :: (D, dfr) :: L) W) L _ ?_ hL0 (fun k L' W' h => hP k _ W' (fun p hp => by simp [hp]) h.2) ?_ ?_).mono ?_
  · intro k
    refine ⟨fun {L W W' q o} h hb hq ho => ⟨fun p hp => ?_, ?_⟩, fun h hb => ⟨h.1, (hI k).toKeep.next h.2 hb⟩, fun h hp => (hI k).toKeep.get h.2 (by simp [hp]), fun {L L' W} h hs => ⟨fun p hp => h.1 p (hs p hp), (hI k).toKeep.sub h.2 fun p hp => ?_⟩⟩
    · rcases List.mem_cons.1 hp with rfl | hp
      · have h5 := (hI k).toKeep.lt h.2 (List.mem_cons_self ..)
        simp only at h5 ⊢
        omega
      · exact h.1 p hp
    · refine (hI k).toKeep.sub ((hI k).toKeep.fresh h.2 hb hq ho) fun p hp => ?_
      simp only [List.cons_append, List.mem_cons, List.mem_append] at hp ⊢
      rcases hp with rfl | rfl | hp | hp
      · exact .inr (.inl rfl)
      · exact .inl rfl
      · exact .inr (.inr (.inl hp))
      · exact .inr (.inr (.inr hp))
    · simp only [List.mem_cons, List.mem_append] at hp ⊢
      rcases hp with rfl | hp | hp
      · exact .inl rfl
      · exact .inr (.inl (hs p hp))
      · exact .inr (.inr hp)
  · exact ⟨hLl, (hI 0).toKeep.sub h1 fun p hp => by
      simp only [List.mem_cons, List.mem_append] at hp ⊢
      rcases hp with rfl | hp | rfl | hp
      · exact .inl rfl
      · exact .inr (.inr hp)
      · exact .inr (.inl rfl)
      · exact .inr (.inr hp)⟩
  · -- one round
    rintro k L' W hk ⟨hL', hi⟩
    have hrl := (hI k).toKeep.get hi (List.mem_cons_self ..)
    have hy := run_yield (P := P) (args := encs k) hrl (by rw [hrec]; exact hps k)
    rw [hrec] at hy
    refine ⟨fn, _, assign, body, hy, roundIn_of_wpIn hfn ?_⟩
    have hLM : ∀ (o : Obj), ∀ p ∈ L, p ∈ ((l, o) :: (L' ++ (D, dfr) :: L)) := fun o p hp => by simp [hp]
    have hlW := (hI k).toKeep.lt hi (List.mem_cons_self ..)
    simp only at hlW
    have hR : ∀ p ∈ (L' ++ (D, dfr) :: L), p.1 ≠ l := fun p hp => by
      rcases List.mem_append.1 hp with hp | hp
      · exact hL' p hp
      · rcases List.mem_cons.1 hp with rfl | hp
        · exact hDl
        · exact hLl p hp
    have hsub : ∀ (o : Obj), ∀ p ∈ ((l, o) :: (D, dfr) :: L), p ∈ ((l, o) :: (L' ++ (D, dfr) :: L)) := fun o p hp => by
      simp only [List.mem_cons, List.mem_append] at hp ⊢
      rcases hp with rfl | rfl | hp
      · exact .inl rfl
      · exact .inr (.inr (.inl rfl))
      · exact .inr (.inr (.inr hp))
    generalize hRR : (L' ++ (D, dfr) :: L) = R at hi hLM hR hsub
    refine wpIn_mono (hround l k ((l, .loop (rec .ready none)) :: R) W hk (hLM _) hi) ?_
    intro e a₁ w₁ hq
    cases e with
    | normal =>
      obtain ⟨M1, hi1, hM1, hbody⟩ := hq
      have hM1l : ∀ p ∈ M1, p.1 ≠ l := fun p hp => by have := hM1 p hp; omega
      have hi1' : I k ((l, .loop (rec .ready none)) :: (M1 ++ R)) w₁ := (hI k).toKeep.sub hi1 fun p hp => by
        simp only [List.mem_cons, List.mem_append] at hp ⊢
        rcases hp with rfl | hp | hp
        · exact .inr (.inl rfl)
        · exact .inl hp
        · exact .inr (.inr hp)
      have hrl1 := (hI k).toKeep.get hi1' (List.mem_cons_self ..)
      refine ⟨_, run_beginRound hrl1 (hst _ _), ?_⟩
      rw [hr1]
      have hi2 := (hI k).upd (o' := .loop (rec .busy none)) hi1' (fun p hp => (List.mem_append.1 hp).elim (hM1l p) (hR p)) (World.putObj_heap_same ((hI k).toKeep.lt hi1' (List.mem_cons_self ..))) (grownBy_putObj _ _ _)
      have hi2' : I k (M1 ++ ((l, .loop (rec .busy none)) :: R)) (w₁.putObj l (.loop (rec .busy none))) := (hI k).toKeep.sub hi2 fun p hp => by
        simp only [List.mem_cons, List.mem_append] at hp ⊢
        rcases hp with hp | rfl | hp
        · exact .inr (.inl hp)
        · exact .inl rfl
        · exact .inr (.inr hp)
      refine wpIn_mono (hbody ((l, .loop (rec .busy none)) :: R) _ (hLM _) hi2') ?_
      have jump : ∀ (c : Code) (W3 : World), Ix c ((l, .loop (rec .busy none)) :: R) W3 → ∃ v w', (Instr.endRound l (some c)).run P W3 = .ok v w' ∧
          ((Ending.returned v = .returned (.bool true) ∧ (∀ p ∈ L', p.1 ≠ l) ∧ I (k + 1) ((l, .loop (rec .ready none)) :: R) w') ∨
            (Ending.returned v = .returned (.bool false) ∧ ∃ c, Ix c ((l, .loop (rec .done (some c))) :: (D, dfr) :: L) w')) := fun c W3 h => by
        have hg3 := (hIx c).toKeep.get h (List.mem_cons_self ..)
        refine ⟨_, _, run_endRound (some c) hg3, .inr ⟨rfl, c, ?_⟩⟩
        rw [hr2]
        exact (hIx c).toKeep.sub ((hIx c).upd (o' := .loop (rec .done (some c))) h hR (World.putObj_heap_same ((hIx c).toKeep.lt h (List.mem_cons_self ..))) (grownBy_putObj _ _ _)) (hsub _)
      intro e3 a3 W3 h3
      cases e3 with
      | normal =>
        have hg3 := (hI (k + 1)).toKeep.get h3 (List.mem_cons_self ..)
        refine ⟨_, _, run_endRound none hg3, .inl ⟨rfl, hL', ?_⟩⟩
        rw [hr2]
        exact (hI (k + 1)).upd h3 hR (World.putObj_heap_same ((hI (k + 1)).toKeep.lt h3 (List.mem_cons_self ..))) (grownBy_putObj _ _ _)
      | ret => exact jump .ret W3 h3
      | exit id => exact jump (.exit id) W3 h3
      | goto t => exact jump (.goto t) W3 h3
      | panic ch => exact h3.elim
      | outgrown => exact h3.elim
    | ret => exact hq.elim
    | exit id => exact hq.elim
    | goto t => exact hq.elim
    | panic ch => exact hq.elim
    | outgrown => exact hq.elim
  · -- behind the iterator
    subst hdfr
    rintro e W2 ⟨⟨v, rfl⟩, (⟨hL', hi⟩ | ⟨c, hi⟩)⟩
    · have hrl := (hI N).toKeep.get hi (List.mem_cons_self ..)
      refine ⟨none, _, ?_, hdone D (W2.putObj l (.loop (rec .exhausted none))) hLD ((hI N).toKeep.sub (hfl hL' (.loop (rec .exhausted none)) hi) fun p hp => ?_)⟩
      · have := run_endLoop (P := P) hrl (by rw [hst]; simp)
        rwa [hr1, show (rec .ready none).pending = none by rw [hrec]] at this
      · simp only [List.mem_cons, List.mem_append] at hp ⊢
        exact .inr (.inr hp)
    · have hrl := (hIx c).toKeep.get hi (List.mem_cons_self ..)
      refine ⟨some c, _, ?_, hstop D c (W2.putObj l (.loop (rec .exhausted (some c)))) hLD ((hIx c).toKeep.sub (hfx (.loop (rec .exhausted (some c))) hi) fun p hp => ?_)⟩
      · have := run_endLoop (P := P) hrl (by rw [hst]; simp)
        rwa [hr1, show (rec .done (some c)).pending = some c by rw [hrec]] at this
      · simp only [List.mem_cons] at hp ⊢
        exact .inr hp

/-! ### the call's own disk -/
theorem keeps_dat {w : World} {d T : Nat} {s : Dk} : Keeps (fun L W => Dat w d T s L W) where
  fresh := fun {L W W' q o} h hb hq ho => by
    obtain ⟨S, h1, h2, h3⟩ := h
    refine ⟨S, h1.turns (Turns.of_below hb) (S' := fun _ => False) (fun _ _ x => x), h2.trans (Own.same (Turns.of_below hb)), fun p hp => ?_⟩
    rcases List.mem_cons.1 hp with rfl | hp
    · exact ⟨Nat.le_trans h2.1.size hq, fun x => by have := h1.lt _ x; simp only at this; omega, ho⟩
    · obtain ⟨a, b, c⟩ := h3 p hp
      exact ⟨a, b, (hb.block _ (Array.getElem?_eq_some_iff.1 c).1).trans c⟩
  next := fun h hb => h.next hb
  get := fun h hp => h.get hp
  sub := fun ⟨S, h1, h2, h3⟩ hs => ⟨S, h1, h2, fun p hp => h3 p (hs p hp)⟩
  upd := fun h hne ho hg => h.upd hne ho hg
end Go.Proofs.Ytfegffdhlkhjbaa
