/-
  What is proved: Do of any request; Do where there is no table or no ledger; Last, List. Conditions as stated.
-/
import Derived.Test.YtflenghnmflenaaDoorSd
namespace Go.Proofs.YtflenghnmflenaaDoor
open Go.RowKit
set_option maxRecDepth 100000

theorem sdo_any {w : World} {t : Nat} {T : List Lst} {g : Nat} {r : Option Nat} {c : Nat} {xs : List It} (hT : Tbl w t T) (h : Sys w g r c xs) (hne : ¬ On g r t) (ht : 4 ≤ t) (q : MRq) :
    Calls Tryd.prog 14 #[.pointer (some ⟨t, 0, none⟩), .pointer (some ⟨g, 0, none⟩), .agg (rqC q).toArray] w fun E w' => SDoP w t T g r xs q E w' := by
  cases hc : isCl q.client with
  | false => exact sdo_no1 hT h hne ht q hc
  | true =>
    by_cases h0 : q.time = 0
    · exact sdo_no2 hT h hne ht q hc h0
    · obtain ⟨cl, tm, o, tag⟩ := q
      dsimp only at hc h0
      have hcl := isCl_iff.1 hc
      obtain ⟨j, rfl⟩ : ∃ j : Nat, cl = (j : Int) + 1 := ⟨(cl - 1).toNat, by omega⟩
      have hj : j < 8 := by omega
      rcases Nat.lt_trichotomy tm (lastOf T ((j : Int) + 1)).1 with hx | hx | hx
      · exact sdo_low hT h hne ht hj h0 o tag hx
      · exact sdo_at hT h hne ht hj h0 o tag hx
      · exact sdo_new hT h hne ht hj h0 o tag hx
def NoP (w : World) (e : Nat) (E : Ending) (w' : World) : Prop := E = .returned (.tuple #[.agg (repC (no e)).toArray, .bool false]) ∧ Below w.heap.size w w'
theorem sdo_nil1 (p : Value) (q : MRq) (w : World) : Calls Tryd.prog 14 #[.pointer none, p, .agg (rqC q).toArray] w fun E w' => NoP w 2 E w' := by
  have HZ : Hid (∀ x y, ((w.alloc (.cells (rqC q).toArray 52)).alloc (.cells #[x, y] 32)).heap[w.heap.size + 1]? = some (.cells [x, y].toArray 32 (0, 0)) ∧ Below w.heap.size w ((w.alloc (.cells (rqC q).toArray 52)).alloc (.cells #[x, y] 32))) := Lib.hid fun x y => ⟨two_new w _ [x, y] _, ((Below.refl _ _).alloc (Nat.le_refl _) _).alloc (by simp) _⟩
  go_enter Tryd.func14, Tryd.ntmps14
  go_wp2_with fail
  (try simp only [Exit.inBlock, Exit.then]); refine bodyPost_ret (ret_ct (g := w.heap.size + 1) rfl rfl rfl (range_all (HZ.out _ _).1) Tryd.underlying32 rfl Tryd.is32) rfl ?_
  exact ⟨rfl, (HZ.out _ _).2⟩
theorem sdo_nil2 (t : Nat) (q : MRq) (w : World) : Calls Tryd.prog 14 #[.pointer (some ⟨t, 0, none⟩), .pointer none, .agg (rqC q).toArray] w fun E w' => NoP w 2 E w' := by
  have HZ : Hid (∀ x y, ((w.alloc (.cells (rqC q).toArray 52)).alloc (.cells #[x, y] 32)).heap[w.heap.size + 1]? = some (.cells [x, y].toArray 32 (0, 0)) ∧ Below w.heap.size w ((w.alloc (.cells (rqC q).toArray 52)).alloc (.cells #[x, y] 32))) := Lib.hid fun x y => ⟨two_new w _ [x, y] _, ((Below.refl _ _).alloc (Nat.le_refl _) _).alloc (by simp) _⟩
  go_enter Tryd.func14, Tryd.ntmps14
  go_wp2_with fail
  (try simp only [Exit.inBlock, Exit.then]); refine bodyPost_ret (ret_ct (g := w.heap.size + 1) rfl rfl rfl (range_all (HZ.out _ _).1) Tryd.underlying32 rfl Tryd.is32) rfl ?_
  exact ⟨rfl, (HZ.out _ _).2⟩
/-! ### Last -/
def tLast (T : List Lst) (c : Int) : Lst := if isCl c = true then lastOf T c else zL
theorem last_fresh (w : World) (a b c : Value) : (w.alloc (.cells #[a, b, c] 34)).heap[w.heap.size]? = some (.cells [a, b, c].toArray 34 (0, 0)) ∧ Below w.heap.size w (w.alloc (.cells #[a, b, c] 34)) :=
  ⟨heap_alloc_new w _, (Below.refl _ _).alloc (Nat.le_refl _) _⟩
theorem tlast_nil (c : Int) (w : World) : Calls Tryd.prog 18 #[.pointer none, .int .i64 c] w fun E w' => E = .returned (.agg (lsC zL).toArray) ∧ Below w.heap.size w w' := by
  have HZ := Lib.hid (last_fresh w)
  go_enter Tryd.func18, Tryd.ntmps18
  go_wp2_with fail
  (try simp only [Exit.inBlock, Exit.then]); refine bodyPost_ret (ret_range (g := w.heap.size) rfl rfl (range_all (HZ.out _ _ _).1) Tryd.underlying34 rfl Tryd.is34) rfl ?_
  exact ⟨rfl, (HZ.out _ _ _).2⟩
theorem tlast_any {w : World} {t : Nat} {T : List Lst} (hT : Tbl w t T) (c : Int) : Calls Tryd.prog 18 #[.pointer (some ⟨t, 0, none⟩), .int .i64 c] w fun E w' => E = .returned (.agg (lsC (tLast T c)).toArray) ∧ Below w.heap.size w w' := by
  have HZ := Lib.hid (last_fresh w)
  cases hc : isCl c with
  | false =>
    have HE : Hid (tLast T c = zL) := Lib.hid (by rw [tLast, hc]; rfl)
    have HC : Hid (∀ W, Calls Tryd.prog 25 #[.int .i64 c] W fun E w' => E = .returned (.bool false) ∧ W = w') := Lib.hid fun W => by rw [← hc]; exact client_any c W
    clear hT hc
    rw [HE.out]
    go_enter Tryd.func18, Tryd.ntmps18
    go_wp2_with (go_at_call 25; refine (HC.out _).mono ?_; rintro E w1 ⟨rfl, rfl⟩)
    (try simp only [Exit.inBlock, Exit.then]); refine bodyPost_ret (ret_range (g := w.heap.size) rfl rfl (range_all (HZ.out _ _ _).1) Tryd.underlying34 rfl Tryd.is34) rfl ?_
    exact ⟨rfl, (HZ.out _ _ _).2⟩
  | true =>
    have hcl := isCl_iff.1 hc
    obtain ⟨j, rfl⟩ : ∃ j : Nat, c = (j : Int) + 1 := ⟨(c - 1).toNat, by omega⟩
    have hj : j < 8 := by omega
    obtain ⟨p, hp, hlast⟩ := last_at hT.len hj
    have HE : Hid (tLast T ((j : Int) + 1) = p) := Lib.hid (by rw [tLast, hc, if_pos rfl, hlast])
    have HC : Hid (∀ W, Calls Tryd.prog 25 #[.int .i64 ((j : Int) + 1)] W fun E w' => E = .returned (.bool true) ∧ W = w') := Lib.hid fun W => by rw [← hc]; exact client_any ((j : Int) + 1) W
    have hb := (HZ.out (.int .u64 0) (.int .i64 0) (.string ⟨#[]⟩)).2
    have m0 : (w.alloc (.cells #[.int .u64 0, .int .i64 0, .string ⟨#[]⟩] 34)).cell? ⟨t, j * 3, none⟩ = some (.int .u64 (p.1 : Int)) := (hT.below hb).cell hp 0 _ rfl
    have m1 : (w.alloc (.cells #[.int .u64 0, .int .i64 0, .string ⟨#[]⟩] 34)).cell? ⟨t, j * 3 + 1, none⟩ = some (.int .i64 (p.2.1 : Int)) := (hT.below hb).cell hp 1 _ rfl
    have m2 : (w.alloc (.cells #[.int .u64 0, .int .i64 0, .string ⟨#[]⟩] 34)).cell? ⟨t, j * 3 + 2, none⟩ = some (.string p.2.2) := (hT.below hb).cell hp 2 _ rfl
    have hwj : IntKind.i64.wrap ((j : Int) + 1 - 1) = (j : Int) := by rw [IntKind.wrap_i64]; omega
    have hj0 : (0 : Int) ≤ (j : Int) := by omega
    have hj8 : (j : Int) < 8 := by omega
    have htn : ((j : Int)).toNat = j := by omega
    clear hb hT hc hcl hp hlast
    rw [HE.out]
    go_enter Tryd.func18, Tryd.ntmps18
    go_wp2_with (go_at_call 25; refine (HC.out _).mono ?_; rintro E w1 ⟨rfl, rfl⟩)
    (try simp only [Exit.inBlock, Exit.then]); refine bodyPost_ret (ret_range (g := w.heap.size) rfl rfl (range_all (HZ.out _ _ _).1) Tryd.underlying34 rfl Tryd.is34) rfl ?_
    exact ⟨rfl, (HZ.out _ _ _).2⟩
/-! ### List -/
def LstP (w : World) (T : List Lst) (E : Ending) (w' : World) : Prop := ∃ b c, E = .returned (.slice (some ⟨b, 0, none⟩) T.length c) ∧ Lss w' (some ⟨b, 0, none⟩) T ∧ w.heap.size ≤ b ∧ Below w.heap.size w w'
theorem lss_of_own {w : World} {B : Nat} {v : Value} {T : List Lst} (hn : 0 < T.length) (h : w.ownsRow B 34 3 v T.length (tbC T)) : ∃ b c, v = .slice (some ⟨b, 0, none⟩) T.length c ∧ Lss w (some ⟨b, 0, none⟩) T ∧ B ≤ b := by
  obtain ⟨_, h⟩ := h
  rcases h with ⟨rfl, hz⟩ | ⟨b, cap, cur, rfl, hB, hb, hl, hc, hs, ht⟩
  · omega
  · refine ⟨b, cap, rfl, ?_, hB⟩
    have e : cur.toList = tbC T ++ cur.toList.drop (T.length * 3) := by
      conv => lhs; rw [← List.take_append_drop (T.length * 3) cur.toList]
      rw [ht]
    exact Lss.of_block (R := cur.toList.drop (T.length * 3)) (ty := 34) (by rw [← e]; simpa using hb)
set_option maxHeartbeats 2000000 in
theorem tclone_some {w : World} {b o c : Nat} {T : List Lst} (hn : 0 < T.length) (hl : T.length ≤ 1000) (hx : ∀ j u, (tbC T)[j]? = some u → w.cell? ⟨b, o + j, none⟩ = some u) :
    Calls Tryd.prog 28 #[.slice (some ⟨b, o, none⟩) T.length c] w fun E w' => LstP w T E w' := by
  obtain ⟨i0, hi0, hz0, hzs, hzb⟩ := info_parts Tryd.info34
  have q22 : ∀ (w : World) (a : Option Addr) (n c n' c' : Nat), (binOp .eql 22 (.slice a n c) (.slice none n' c')).run Tryd.prog w = .ok (.bool a.isNone) w := fun w a n c n' c' => Lib.run_eql_slice_nil w _ _ a n c n' c' Tryd.underlying22
  have H1 : Hid (∀ j u, (tbC T)[j]? = some u → (w.alloc (.cells #[] 34)).cell? ((⟨b, o, none⟩ : Addr).add j) = some u) := Lib.hid fun j u hj => by
    rw [Addr.add_lit]
    exact Lib.cell?_alloc_some _ (hx j u hj)
  have H2 := Lib.hid (tbC_length T)
  have H3 := Lib.hid (tbC_one T)
  have HF : Hid (∀ v' w', w'.ownsRow w.heap.size 34 3 v' (0 + T.length) ([] ++ tbC T) → (w.alloc (.cells #[] 34)).grownBy w' (some w.heap.size) → LstP w T (.returned v') w') := Lib.hid fun v' w' h g => by
    rw [Nat.zero_add, List.nil_append] at h
    obtain ⟨b, c, rfl, hr, hb⟩ := lss_of_own hn h
    exact ⟨b, c, rfl, hr, hb, ((Below.refl _ w).alloc (Nat.le_refl _) _).grown g (by simp) (by intro k hk; injection hk with hk; omega)⟩
  obtain ⟨n, hnn⟩ : ∃ n, n = T.length := ⟨_, rfl⟩
  rw [← hnn] at H2 HF hl ⊢
  clear hx hnn hn
  go_enter Tryd.func28, Tryd.ntmps28
  go_wp2_with (at_builtin; refine wpList_append_own _ rfl _ _ 22 rfl w.heap.size 34 i0 _ 3 32 Tryd.underlying22 hi0 hz0 hzs hzb (by simp [Value.cells]) (by omega) _ 0 [] rfl (World.ownsRow_made w #[] 0 (Nat.le_refl _) (Nat.zero_le _) (by simp)) ⟨b, o, none⟩ n c (tbC T) rfl H2.out H1.out H3.out (by unfold maxLen; omega) (by omega) (by simp) ?_; intro v' w1 hown hgrow hnil)
  go_ret
  exact HF.out _ _ hown hgrow
theorem tlist_any {w : World} {t : Nat} {T : List Lst} (hT : Tbl w t T) : Calls Tryd.prog 17 #[.pointer (some ⟨t, 0, none⟩)] w fun E w' => LstP w T E w' := by
  have HC : Hid (Calls Tryd.prog 28 #[.slice (some ⟨t, 0, none⟩) 8 8] w fun E w' => LstP w T E w') := Lib.hid (by
    have := tclone_some (b := t) (o := 0) (c := 8) (T := T) (w := w) (by rw [hT.len]; omega) (by rw [hT.len]; omega) (fun j u hj => by rw [Nat.zero_add]; exact block_cell hT.top j u hj)
    rwa [hT.len] at this)
  have hal : Tryd.prog.arrayLen 35 = 8 := by kernel_rfl
  clear hT
  go_enter Tryd.func17, Tryd.ntmps17
  go_wp2_with (go_at_call 28; refine HC.out.mono ?_; rintro E w' ⟨b, c, rfl, hp⟩)
  go_ret
  exact ⟨b, c, rfl, hp⟩
theorem tlist_nil (w : World) : Calls Tryd.prog 17 #[.pointer none] w fun E w' => E = .returned (.slice none 0 0) ∧ w = w' := by
  go_enter Tryd.func17, Tryd.ntmps17
  go_wp2_with fail
  go_ret
  exact ⟨rfl, rfl⟩
end Go.Proofs.YtflenghnmflenaaDoor
