/-
  What is proved: what refuses and seal of a counter answer. Conditions as stated.
-/
import Derived.Test.YtepjfkmbmcfnoaaDoorGc
namespace Go.Proofs.YtepjfkmbmcfnoaaDoor
open Go.RowKit
set_option maxRecDepth 100000

/-- A counter's two cells. -/
def usOf (g : Nat) (i : Int) : Obj := .cells #[.pointer (some ⟨g, 0, none⟩), .int .i64 i] 74 (0, 0)
theorem usOf_cells {w : World} {u g : Nat} {i : Int} (h : w.heap[u]? = some (usOf g i)) : w.cell? ⟨u, 0, none⟩ = some (.pointer (some ⟨g, 0, none⟩)) ∧ w.cell? ⟨u, 1, none⟩ = some (.int .i64 i) :=
  ⟨block_cell (C := [.pointer (some ⟨g, 0, none⟩), .int .i64 i]) h 0 _ rfl, block_cell (C := [.pointer (some ⟨g, 0, none⟩), .int .i64 i]) h 1 _ rfl⟩

theorem own_ge {w : World} {B g n c : Nat} {xs : List UInt8} (h : w.ownsRow B 5 1 (.slice (some ⟨g, 0, none⟩) n c) n (u8s xs)) (hp : 0 < n) : B ≤ g := by
  obtain ⟨g', cap, cur, hv, hB, _⟩ := own_block h hp
  cases hv
  exact hB

section
variable {w wr w0 w1 : World} {d T : Nat} {s s' : Dk} {L : List (Nat × Obj)} {x : Int} {g u : Nat} {bs b : List UInt8} {slot e : Int}
theorem OpAt.get {q : Nat} {o : Obj} (h : OpAt w d T s x L g bs slot wr) (hq : (q, o) ∈ L) : wr.heap[q]? = some o := h.dat.get hq
theorem OpAt.own (h : OpAt w d T s x L g bs slot w0) (hb : Below w0.heap.size w0 w1) {A : Option Addr} {n c B : Nat} (ho : w1.ownsRow B 5 1 (.slice A n c) n (u8s b)) (hB : w0.heap.size ≤ B) : ∃ LR, OpAt w d T s x (LR ++ L) g bs slot w1 ∧ Src w LR A n b := by
  obtain ⟨A0, n0, c0, LR0, h1, h2, h3, h4, h5, h6⟩ := h
  obtain ⟨LR, k1, k2, k3⟩ := own_src h1 hb ho hB
  refine ⟨LR, ⟨A0, n0, c0, LR0, k1.sub fun p hp => ?_, h2, h3, h4, fun p hp => ⟨(h5 p hp).1, fun q hq => ?_⟩, fun q hq => ?_⟩, k2⟩
  · simp only [List.mem_cons, List.mem_append] at hp ⊢
    rcases hp with rfl | hp | hp | hp
    · exact .inr (.inl rfl)
    · exact .inr (.inr (.inl hp))
    · exact .inl hp
    · exact .inr (.inr (.inr hp))
  · rcases List.mem_append.1 hq with hq | hq
    · have a := k3 q hq
      have b := keeps_dat.toKeep.lt h1 (.tail _ (List.mem_append_left _ hp))
      omega
    · exact (h5 p hp).2 q hq
  · rcases List.mem_append.1 hq with hq | hq
    · have a := k3 q hq
      have b := h1.lt (q := g) (.head _)
      omega
    · exact h6 q hq
/-- A block of the law's own is written. -/
theorem OpAt.write {q : Nat} {o o' : Obj} (h : OpAt w d T s x ((q, o) :: L) g bs slot w0) (hL : ∀ p ∈ L, p.1 ≠ q) (ho : w1.heap[q]? = some o') (hg : w0.grownBy w1 (some q)) : OpAt w d T s x ((q, o') :: L) g bs slot w1 := by
  obtain ⟨A0, n0, c0, LR0, h1, h2, h3, h4, h5, h6⟩ := h
  have k1 : Dat w d T s ((q, o) :: ((g, cellOf d x A0 n0 c0 slot false) :: (LR0 ++ L))) w0 := h1.sub fun p hp => by
    simp only [List.mem_cons, List.mem_append] at hp ⊢
    rcases hp with rfl | rfl | hp | hp
    · exact .inr (.inr (.inl rfl))
    · exact .inl rfl
    · exact .inr (.inl hp)
    · exact .inr (.inr (.inr hp))
  have hgq := h6 _ (List.mem_cons_self ..)
  have k2 := k1.upd (fun p hp => ?_) ho hg
  · refine ⟨A0, n0, c0, LR0, k2.sub fun p hp => ?_, h2, h3, h4, fun p hp => ⟨(h5 p hp).1, fun y hy => ?_⟩, fun y hy => ?_⟩
    · simp only [List.mem_cons, List.mem_append] at hp ⊢
      rcases hp with rfl | hp | rfl | hp
      · exact .inr (.inl rfl)
      · exact .inr (.inr (.inl hp))
      · exact .inl rfl
      · exact .inr (.inr (.inr hp))
    · rcases List.mem_cons.1 hy with rfl | hy
      · exact (h5 p hp).2 (q, o) (List.mem_cons_self ..)
      · exact (h5 p hp).2 y (.tail _ hy)
    · rcases List.mem_cons.1 hy with rfl | hy
      · exact hgq
      · exact h6 y (.tail _ hy)
  · simp only [List.mem_cons, List.mem_append] at hp
    rcases hp with rfl | hp | hp
    · exact fun e => hgq e.symm
    · exact (h5 p hp).2 (q, o) (List.mem_cons_self ..)
    · exact hL p hp

/-- What is wrong first with so many bytes. -/
def refE (bs : List UInt8) (m : Nat) : Int := if 1024 < m then 6 else if sealN bs = 65536 then 10 else 0
theorem us_nil_refuses (A : Option Addr) (m c : Nat) : Calls Tryd.prog 34 #[.pointer none, .slice A m c] wr fun E w' => E = .returned (.int .i64 2) ∧ wr = w' := by
  go_enter Tryd.func34, Tryd.ntmps34
  go_wp2
  go_ret
  exact ⟨rfl, rfl⟩
theorem us_refuses (h : OpAt w d T s x L g bs slot wr) (i : Int) (hu : wr.heap[u]? = some (usOf g i)) (A : Option Addr) (m c : Nat) :
    Calls Tryd.prog 34 #[.pointer (some ⟨u, 0, none⟩), .slice A m c] wr fun E w' => E = .returned (.int .i64 (refE bs m)) ∧ Hid (Below wr.heap.size wr w') := by
  obtain ⟨c0, c1⟩ := usOf_cells hu
  have HE := Lib.hid (ended_any h i)
  have HR := Lib.hid (Below.refl wr.heap.size wr)
  by_cases hm : 1024 < m
  · rw [refE, if_pos hm]
    clear h hu HE
    go_enter Tryd.func34, Tryd.ntmps34
    go_wp2
    go_ret
    exact ⟨rfl, HR⟩
  · by_cases hn : sealN bs = 65536
    · rw [refE, if_neg hm, if_pos hn]
      rw [hn] at HE
      clear h hu hn HR
      go_enter Tryd.func34, Tryd.ntmps34
      go_wp2_with fail
      refine HE.out.mono ?_
      rintro E w1 ⟨rfl, HB⟩
      go_wp2_with fail
      go_ret
      exact ⟨rfl, HB⟩
    · rw [refE, if_neg hm, if_neg hn]
      rw [show ((sealN bs : Int) == 65536) = false by simp; omega] at HE
      clear h hu hn HR
      go_enter Tryd.func34, Tryd.ntmps34
      go_wp2_with fail
      refine HE.out.mono ?_
      rintro E w1 ⟨rfl, HB⟩
      go_wp2_with fail
      go_ret
      exact ⟨rfl, HB⟩

/-- How a Put into the counter's cell ends. -/
def SealEnd (w : World) (d T : Nat) (s' : Dk) (x : Int) (L : List (Nat × Obj)) (g : Nat) (b : List UInt8) (slot e : Int) (w' : World) : Prop :=
  (e ≠ 0 ∧ (∃ A0 n0 c0 sl0, w'.heap[g]? = some (cellOf d x A0 n0 c0 sl0 true)) ∧ Dat w d T s' L w' ∧ (∀ q ∈ L, q.1 ≠ g)) ∨ (e = 0 ∧ OpAt w d T s' x L g b slot w')
theorem SealEnd.sub {L' : List (Nat × Obj)} (h : SealEnd w d T s' x L g b slot e w1) (hs : ∀ p ∈ L', p ∈ L) : SealEnd w d T s' x L' g b slot e w1 :=
  h.imp (fun ⟨h1, h2, h3, h4⟩ => ⟨h1, h2, h3.sub hs, fun q hq => h4 q (hs q hq)⟩) (fun ⟨h1, h2⟩ => ⟨h1, h2.sub hs⟩)
theorem SealEnd.get {q : Nat} {o : Obj} (h : SealEnd w d T s' x L g b slot e w1) (hq : (q, o) ∈ L) : w1.heap[q]? = some o := by
  rcases h with ⟨_, _, h, _⟩ | ⟨_, h⟩
  · exact h.get hq
  · exact h.get hq
theorem SealEnd.dat (h : SealEnd w d T s' x L g b slot e w1) : Dat w d T s' L w1 := by
  rcases h with ⟨_, _, h, _⟩ | ⟨_, h⟩
  · exact h
  · exact h.dat
theorem SealEnd.next {w2 : World} (h : SealEnd w d T s' x L g b slot e w1) (hl : g < w1.heap.size) (hb : Below w1.heap.size w1 w2) : SealEnd w d T s' x L g b slot e w2 :=
  h.imp (fun ⟨h1, ⟨A0, n0, c0, sl0, h2⟩, h3, h4⟩ => ⟨h1, ⟨A0, n0, c0, sl0, (hb.block _ hl).trans h2⟩, h3.next hb, h4⟩) (fun ⟨h1, h2⟩ => ⟨h1, h2.next hb⟩)

set_option maxHeartbeats 2000000 in
theorem seal_any (h : OpAt w d T s x L g bs slot wr) (ho : s.off = false) (hT : T < 10000000) (hx : 0 ≤ x ∧ x ≤ 32748) (hsl : 0 ≤ slot ∧ slot ≤ 1) (htop : topGo s x 20 < 9223372036854775808)
    (i : Int) (num : Nat) {A : Option Addr} {m c : Nat} (hb : Src w L A m b) (hs : Oct.Sl A m c) (hm : m ≤ 1024) (he : renewD s x (1 - slot) (Oct.be 8 num ++ b) = (s', e)) :
    Calls Tryd.prog 35 #[.agg #[.pointer (some ⟨g, 0, none⟩), .int .i64 i], .int .u64 (num : Int), .slice A m c] wr fun E w' => E = .returned (.int .i64 e) ∧ Hid (SealEnd w d (T + 10) s' x L g (Oct.be 8 num ++ b) (1 - slot) e w') := by
  have HO := Lib.hid (h.lit (.cells #[.pointer (some ⟨g, 0, none⟩), .int .i64 i] 71 (0, 0)))
  have hw := fun W => Oct.word_any none 0 0 [] num W ⟨rfl, fun h => absurd h (by omega)⟩ (by omega)
  simp only [List.nil_append, Nat.zero_add] at hw
  have HW := Lib.hid hw
  clear hw
  have HB := Lib.hid hb
  have HS := Lib.hid hs
  clear h hb hs
  go_enter Tryd.func35, Tryd.ntmps35
  go_wp2_with fail
  try try simp only [Act.put, List.setIfInBounds_toArray, List.set_cons_zero, List.set_cons_succ]
  refine wp_region_any (by kernel_rfl) ?_
  change wpAny _ _ _ _ _ _ _ ((wr.alloc (.cells #[.pointer (some ⟨g, 0, none⟩), .int .i64 i] 71)).drewN 1)
  have HOQ := Lib.hid (HO.out.next (w3 := (wr.alloc (.cells #[.pointer (some ⟨g, 0, none⟩), .int .i64 i] 71)).drewN 1) ⟨rfl, rfl, rfl, Nat.le_refl _, fun _ _ => rfl⟩)
  generalize (wr.alloc (.cells #[.pointer (some ⟨g, 0, none⟩), .int .i64 i] 71)).drewN 1 = w7 at HOQ ⊢
  clear HO
  refine wpAny_of_held (S := fun W => W.cell? ⟨wr.heap.size, 0, none⟩ = some (.pointer (some ⟨g, 0, none⟩))) _ _ _ _ ?_
  refine wpAnyH_take (i := 0) (oi := { dst := some 7, op := Op.fieldAddr 71 (Operand.tmp 3) 0, type := 0, pos := "usig.go:104", after := #[], guard := none }) (v := .pointer (some ⟨wr.heap.size, 0, none⟩)) rfl (by kernel_rfl) (by kernel_rfl) (by kernel_rfl) (fun _ _ _ h => h) (Or.inl ⟨by kernel_rfl, fun W hSW => by have hc0 := hSW; go_simp⟩) ((block_cell (C := [.pointer (some ⟨g, 0, none⟩), .int .i64 i]) (HOQ.out.get (.head _)) 0 _ rfl)) ?_
  try simp only [Act.put, List.setIfInBounds_toArray, List.set_cons_zero, List.set_cons_succ]
  refine wpAnyH_take (i := 1) (oi := { dst := some 8, op := Op.load 47 (Operand.tmp 7), type := 47, pos := "usig.go:104", after := #[{ on := 0, ground := Ground.data }], guard := none }) (v := .pointer (some ⟨g, 0, none⟩)) rfl (by kernel_rfl) (by kernel_rfl) (by kernel_rfl) (fun _ _ _ h => h) (Or.inl ⟨by kernel_rfl, fun W hSW => by have hc0 := hSW; go_simp⟩) ((block_cell (C := [.pointer (some ⟨g, 0, none⟩), .int .i64 i]) (HOQ.out.get (.head _)) 0 _ rfl)) ?_
  try simp only [Act.put, List.setIfInBounds_toArray, List.set_cons_zero, List.set_cons_succ]
  refine wpAnyH_take (i := 2) (oi := { dst := some 9, op := Op.move (Operand.tmp 1), type := 35, pos := "usig.go:104", after := #[], guard := none }) (v := .int .u64 (num : Int)) rfl (by kernel_rfl) (by kernel_rfl) (by kernel_rfl) (fun _ _ _ h => h) (Or.inl ⟨by kernel_rfl, fun W hSW => by have hc0 := hSW; go_simp⟩) ((block_cell (C := [.pointer (some ⟨g, 0, none⟩), .int .i64 i]) (HOQ.out.get (.head _)) 0 _ rfl)) ?_
  try simp only [Act.put, List.setIfInBounds_toArray, List.set_cons_zero, List.set_cons_succ]
  refine wpAnyH_take (i := 4) (oi := { dst := some 11, op := Op.move (Operand.tmp 2), type := 29, pos := "usig.go:104", after := #[], guard := none }) (v := .slice A m c) rfl (by kernel_rfl) (by kernel_rfl) (by kernel_rfl) (fun _ _ _ h => h) (Or.inl ⟨by kernel_rfl, fun W hSW => by have hc0 := hSW; go_simp⟩) ((block_cell (C := [.pointer (some ⟨g, 0, none⟩), .int .i64 i]) (HOQ.out.get (.head _)) 0 _ rfl)) ?_
  try simp only [Act.put, List.setIfInBounds_toArray, List.set_cons_zero, List.set_cons_succ]
  refine wpAnyH_ready (rs := [3]) (by kernel_rfl) (by simp) ?_
  refine AllReadyH.cons (o := { dst := some 10, op := Op.call { callee := Callee.value (Operand.func 23), args := #[Operand.const (Value.slice none 0 0), Operand.tmp 9], argTypes := #[29, 35] }, type := 29, pos := "usig.go:104", after := #[{ on := 2, ground := Ground.data }], guard := none }) rfl (fun K' hK' => ?_) AllReadyH.nil
  go_simp
  go_at_call 23
  refine (HW.out w7).mono ?_
  rintro E w8 ⟨g8, c8, rfl, ho8, hb8⟩
  have H8 : Hid (w8.ownsRow w7.heap.size 5 1 (.slice (some ⟨g8, 0, none⟩) 8 c8) 8 (u8s (Oct.be 8 num)) ∧ Below w7.heap.size w7 w8) := Lib.hid ⟨ho8, hb8⟩
  clear ho8 hb8
  have HO8 := Lib.hid (HOQ.out.next H8.out.2)
  refine hK'.out _ _ (block_cell (C := [.pointer (some ⟨g, 0, none⟩), .int .i64 i]) (HO8.out.get (.head _)) 0 _ rfl) (fun _ => ?_)
  clear hK' K'
  try simp only [Act.put, List.setIfInBounds_toArray, List.set_cons_zero, List.set_cons_succ]
  refine wpAnyH_ready (rs := [5]) (by kernel_rfl) (by simp) ?_
  refine AllReadyH.cons (o := { dst := some 12, op := Op.call { callee := Callee.builtin Builtin.append, args := #[Operand.tmp 10, Operand.tmp 11], argTypes := #[29, 29] }, type := 29, pos := "usig.go:104", after := #[{ on := 3, ground := Ground.data }, { on := 4, ground := Ground.data }, { on := 3, ground := Ground.chain }], guard := none }) rfl (fun K' hK' => ?_) AllReadyH.nil
  have HBL := Lib.hid (HB.out.rd HO8.out.dat (fun q hq => .tail _ hq))
  refine step_append_oct rfl (.tmp 10) (.tmp 11) rfl w7.heap.size 8 m c (.slice (some ⟨g8, 0, none⟩) 8 c8) A (Oct.be 8 num) b rfl rfl H8.out.1 HBL.out HS.out H8.out.2.size (by omega) ?_
  intro A9 c9 w9 H9 G9
  have HB9 : Hid (Below w7.heap.size w7 w9) := Lib.hid (below_gb' H8.out.2 G9.out (own_ge H8.out.1 (by omega)) H8.out.2.size)
  obtain ⟨LR, O9, S9⟩ := HOQ.out.own HB9.out H9.out.1 (Nat.le_refl _)
  have HO9 := Lib.hid O9
  have HP := Lib.hid (cell_put_end O9 ho hT hx hsl htop (fun W hb1 hb2 => S9 W hb1 (fun q hq => hb2 q (List.mem_append_left _ hq))) H9.out.2 (by omega) he)
  clear O9 S9
  refine hK'.out _ _ (block_cell (C := [.pointer (some ⟨g, 0, none⟩), .int .i64 i]) (HO9.out.get (List.mem_append_right _ (.head _))) 0 _ rfl) (fun _ => ?_)
  clear hK' K'
  try simp only [Act.put, List.setIfInBounds_toArray, List.set_cons_zero, List.set_cons_succ]
  refine wpAnyH_ready (rs := [6]) (by kernel_rfl) (by simp) ?_
  refine AllReadyH.cons (o := { dst := some 13, op := Op.call { callee := Callee.value (Operand.func 22), args := #[Operand.tmp 8, Operand.tmp 12], argTypes := #[47, 29] }, type := 26, pos := "usig.go:104", after := #[{ on := 1, ground := Ground.data }, { on := 5, ground := Ground.data }, { on := 5, ground := Ground.chain }], guard := none }) rfl (fun K' hK' => ?_) AllReadyH.nil
  go_simp
  go_at_call 22
  refine HP.out.mono ?_
  rintro E w10 ⟨rfl, H10⟩
  have HE10 : Hid (SealEnd w d (T + 10) s' x (LR ++ ((wr.heap.size, .cells #[.pointer (some ⟨g, 0, none⟩), .int .i64 i] 71 (0, 0)) :: L)) g (Oct.be 8 num ++ b) (1 - slot) e w10) := Lib.hid H10.out
  clear H10
  refine hK'.out _ _ (block_cell (C := [.pointer (some ⟨g, 0, none⟩), .int .i64 i]) (HE10.out.get (List.mem_append_right _ (.head _))) 0 _ rfl) (fun _ => ?_)
  clear hK' K'
  try simp only [Act.put, List.setIfInBounds_toArray, List.set_cons_zero, List.set_cons_succ]
  refine wpAnyH_take (i := 7) (oi := { dst := some 6, op := Op.assign (Operand.tmp 13), type := 26, pos := "usig.go:104", after := #[{ on := 6, ground := Ground.data }, { on := 6, ground := Ground.chain }, { on := 0, ground := Ground.phase }, { on := 1, ground := Ground.phase }, { on := 2, ground := Ground.phase }, { on := 3, ground := Ground.phase }, { on := 4, ground := Ground.phase }, { on := 5, ground := Ground.phase }, { on := 6, ground := Ground.phase }], guard := none }) (v := .int .i64 e) rfl (by kernel_rfl) (by kernel_rfl) (by kernel_rfl) (fun _ _ _ h => h) (Or.inl ⟨by kernel_rfl, fun W hSW => by go_simp⟩) ((block_cell (C := [.pointer (some ⟨g, 0, none⟩), .int .i64 i]) (HE10.out.get (List.mem_append_right _ (.head _))) 0 _ rfl)) ?_
  try simp only [Act.put, List.setIfInBounds_toArray, List.set_cons_zero, List.set_cons_succ]
  refine wpAnyH_done (by kernel_rfl) ?_ _
  go_wp2_with fail
  go_ret
  exact ⟨rfl, Lib.hid (HE10.out.sub fun p hp => List.mem_append_right _ (.tail _ hp))⟩
end
end Go.Proofs.YtepjfkmbmcfnoaaDoor
