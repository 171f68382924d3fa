/-
  What is proved: what Next of a counter answers. Conditions as stated.
-/
import Derived.Test.YtepjfkmbmcfnoaaDoorGe
namespace Go.Proofs.YtepjfkmbmcfnoaaDoor
open Go.RowKit
set_option maxRecDepth 100000

theorem nil_next (A : Option Addr) (m c : Nat) (wr : World) : Calls Tryd.prog 16 #[.pointer none, .slice A m c] wr fun E w' => E = .returned (.tuple #[.int .u64 0, tagV noTag, .int .i64 2]) ∧ Hid (Below wr.heap.size wr w') := by
  obtain ⟨Z, hZ⟩ : ∃ Z, Z = u8s noTag := ⟨_, rfl⟩
  have hz : ∀ w, (zeroValue 36).run Tryd.prog w = .ok (.agg Z.toArray) w := by rw [hZ]; exact zero_tag
  have hbd : ∀ w, (Instr.build 36 #[]).run Tryd.prog w = .ok (.agg Z.toArray) w := by rw [hZ]; exact build_tag
  have HI : Hid ((Tryd.prog.info? 36).map (·.size) = some Z.length) := Lib.hid (by rw [hZ]; exact tag_info rfl)
  have HO : Hid (∀ v ∈ Z, v.oneCell' = true) := Lib.hid (by rw [hZ]; exact u8s_one _)
  have HA : Hid (Below wr.heap.size wr (wr.alloc (.cells Z.toArray 36)) ∧ (wr.alloc (.cells Z.toArray 36)).heap[wr.heap.size]? = some (.cells Z.toArray 36 (0, 0))) := Lib.hid ⟨(Below.refl _ _).alloc (Nat.le_refl _) _, row_new _ _ _⟩
  unfold tagV
  rw [← hZ]
  clear hZ
  go_enter Tryd.func16, Tryd.ntmps16
  go_wp2_with (first
    | (go_at_call 34; refine (us_nil_refuses A m c).mono ?_; rintro E w1 ⟨rfl, rfl⟩)
    | (refine wpList_store_all rfl 36 (.tmp 5) (.tmp 16) rfl wr.heap.size Z Z 36 HA.out.2 rfl rfl rfl HI.out HO.out ?_; intro w2 G2))
  exact bodyPost_ret (ret_tct (cs := Z) rfl rfl rfl rfl (range_block G2.out.1 0 _ (fun j v hv => by rw [Nat.zero_add]; exact hv)) Tryd.underlying36 rfl HI.out) rfl ⟨rfl, Lib.hid (below_gb HA.out.1 G2.out.2 (Nat.le_refl _) HA.out.1.size)⟩

section
variable {w wr w0 w1 : World} {d T : Nat} {s s' : Dk} {L : List (Nat × Obj)} {x : Int} {g u : Nat} {bs b : List UInt8} {slot e : Int}
/-- What refuses a Next changes nothing. -/
theorem next_refused (h : OpAt w d T s x L g bs slot wr) (i : Int) (hu : (u, usOf g i) ∈ L) (A : Option Addr) (m c : Nat) (hr : refE bs m = e) (hne : e ≠ 0) :
    Calls Tryd.prog 16 #[.pointer (some ⟨u, 0, none⟩), .slice A m c] wr fun E w' => E = .returned (.tuple #[.int .u64 0, tagV noTag, .int .i64 e]) ∧ Hid (Below wr.heap.size wr w') := by
  obtain ⟨Z, hZ⟩ : ∃ Z, Z = u8s noTag := ⟨_, rfl⟩
  have hz : ∀ w, (zeroValue 36).run Tryd.prog w = .ok (.agg Z.toArray) w := by rw [hZ]; exact zero_tag
  have hbd : ∀ w, (Instr.build 36 #[]).run Tryd.prog w = .ok (.agg Z.toArray) w := by rw [hZ]; exact build_tag
  have HI : Hid ((Tryd.prog.info? 36).map (·.size) = some Z.length) := Lib.hid (by rw [hZ]; exact tag_info rfl)
  have HO : Hid (∀ v ∈ Z, v.oneCell' = true) := Lib.hid (by rw [hZ]; exact u8s_one _)
  have HA : Hid (Below wr.heap.size wr (wr.alloc (.cells Z.toArray 36)) ∧ (wr.alloc (.cells Z.toArray 36)).heap[wr.heap.size]? = some (.cells Z.toArray 36 (0, 0))) := Lib.hid ⟨(Below.refl _ _).alloc (Nat.le_refl _) _, row_new _ _ _⟩
  have h' := h.lit (.cells Z.toArray 36 (0, 0))
  have HR := Lib.hid (us_refuses h' i (h'.get (.tail _ hu)) A m c)
  rw [hr] at HR
  have hz0 : (e == 0) = false := by simpa using hne
  unfold tagV
  rw [← hZ]
  clear hZ h h' hu hr hne
  go_enter Tryd.func16, Tryd.ntmps16
  go_wp2_with fail
  refine HR.out.mono ?_
  rintro E w1 ⟨rfl, HB⟩
  have HB1 : Hid (Below wr.heap.size wr w1 ∧ w1.heap[wr.heap.size]? = some (.cells Z.toArray 36 (0, 0))) := Lib.hid ⟨HA.out.1.trans (HB.out.mono HA.out.1.size), (HB.out.block _ (by simp)).trans HA.out.2⟩
  go_wp2_with (first
    | (refine wpList_store_all rfl 36 (.tmp 5) (.tmp 16) rfl wr.heap.size Z Z 36 HB1.out.2 rfl rfl rfl HI.out HO.out ?_; intro w2 G2))
  exact bodyPost_ret (ret_tct (cs := Z) rfl rfl rfl rfl (range_block G2.out.1 0 _ (fun j v hv => by rw [Nat.zero_add]; exact hv)) Tryd.underlying36 rfl HI.out) rfl ⟨rfl, Lib.hid (below_gb HB1.out.1 G2.out.2 (Nat.le_refl _) HB1.out.1.size)⟩

theorem SealEnd.write {q : Nat} {o o' : Obj} (h : SealEnd w d T s' x ((q, o) :: L) g b slot e w0) (hL : ∀ p ∈ L, p.1 ≠ q) (ho : w1.heap[q]? = some o') (hg : w0.grownBy w1 (some q)) : SealEnd w d T s' x L g b slot e w1 := by
  rcases h with ⟨h1, ⟨A0, n0, c0, sl0, h2⟩, h3, h4⟩ | ⟨h1, h2⟩
  · have hq := h4 (q, o) (List.mem_cons_self ..)
    exact .inl ⟨h1, ⟨A0, n0, c0, sl0, (hg.block g (Array.getElem?_eq_some_iff.1 h2).1 (fun e => hq (by injection e with e; exact e.symm))).trans h2⟩, (h3.upd hL ho hg).drop, fun y hy => h4 y (.tail _ hy)⟩
  · exact .inr ⟨h1, (h2.write hL ho hg).sub fun p hp => .tail _ hp⟩

set_option maxHeartbeats 400000 in
theorem next_us (h : OpAt w d T s x L g bs slot wr) (i : Int) (hu : (u, usOf g i) ∈ L) (hk : Sh.KIs w) (h0 : 0 < w.heap.size) (ho : s.off = false) (hT : T < 10000000) (hx : 0 ≤ x ∧ x ≤ 32748) (hsl : 0 ≤ slot ∧ slot ≤ 1) (htop : topGo s x 20 < 9223372036854775808)
    {A : Option Addr} {m c : Nat} (hb : Src w L A m b) (hs : Oct.Sl A m c) (hm : m ≤ 1024) (num : Nat) (hnum : sealN bs = num) (hn : num < 65536) (he : renewD s x (1 - slot) (Oct.be 8 (num + 1) ++ b) = (s', e)) :
    Calls Tryd.prog 16 #[.pointer (some ⟨u, 0, none⟩), .slice A m c] wr fun E w' => E = .returned (.tuple #[.int .u64 (if e = 0 then ((num + 1 : Nat) : Int) else 0), tagV (if e = 0 then Sh.numTag i (num + 1) b else noTag), .int .i64 e]) ∧
      Hid (SealEnd w d (T + 10) s' x L g (Oct.be 8 (num + 1) ++ b) (1 - slot) e w') := by
  obtain ⟨Z, hZ⟩ : ∃ Z, Z = u8s noTag := ⟨_, rfl⟩
  have hz : ∀ w, (zeroValue 36).run Tryd.prog w = .ok (.agg Z.toArray) w := by rw [hZ]; exact zero_tag
  have hbd : ∀ w, (Instr.build 36 #[]).run Tryd.prog w = .ok (.agg Z.toArray) w := by rw [hZ]; exact build_tag
  have HIZ : Hid ((Tryd.prog.info? 36).map (·.size) = some Z.length) := Lib.hid (by rw [hZ]; exact tag_info rfl)
  have HOZ : Hid (∀ v ∈ Z, v.oneCell' = true) := Lib.hid (by rw [hZ]; exact u8s_one _)
  have HZZ := Lib.hid hZ
  have HA : Hid (Below wr.heap.size wr (wr.alloc (.cells Z.toArray 36)) ∧ (wr.alloc (.cells Z.toArray 36)).heap[wr.heap.size]? = some (.cells Z.toArray 36 (0, 0))) := Lib.hid ⟨(Below.refl _ _).alloc (Nat.le_refl _) _, row_new _ _ _⟩
  have h' := h.lit (.cells Z.toArray 36 (0, 0))
  have HO := Lib.hid h'
  have HU := Lib.hid hu
  have HL : Hid (∀ p ∈ L, p.1 ≠ wr.heap.size) := Lib.hid fun p hp => by have := h.dat.lt (q := p.1) (o := p.2) hp; omega
  have hrE : refE bs m = 0 := by rw [refE, if_neg (by omega), if_neg (by omega)]
  have HR := Lib.hid (us_refuses h' i (h'.get (.tail _ hu)) A m c)
  rw [hrE] at HR
  have HSE : Hid (∀ W, Below (wr.alloc (.cells Z.toArray 36)).heap.size (wr.alloc (.cells Z.toArray 36)) W → Calls Tryd.prog 29 #[.agg #[.pointer (some ⟨g, 0, none⟩), .int .i64 i]] W fun E w' => ∃ A c k, E = .returned (.tuple #[.int .u64 (num : Int), .slice A k c]) ∧ Hid (Below W.heap.size W w')) := Lib.hid fun W hb => by
    have := sealed_any (h'.next hb) i
    rw [hnum] at this
    exact this.mono fun E w' ⟨A, c, h1, _, h3⟩ => ⟨A, c, _, h1, h3⟩
  have HSL : Hid (∀ W, Below (wr.alloc (.cells Z.toArray 36)).heap.size (wr.alloc (.cells Z.toArray 36)) W → Calls Tryd.prog 35 #[.agg #[.pointer (some ⟨g, 0, none⟩), .int .i64 i], .int .u64 ((num + 1 : Nat) : Int), .slice A m c] W fun E w' => E = .returned (.int .i64 e) ∧
      Hid (SealEnd w d (T + 10) s' x ((wr.heap.size, .cells Z.toArray 36 (0, 0)) :: L) g (Oct.be 8 (num + 1) ++ b) (1 - slot) e w')) := Lib.hid fun W hbW =>
    seal_any (h'.next hbW) ho hT hx hsl htop i (num + 1) (fun W hb1 hb2 => hb W hb1 (fun q hq => hb2 q (.tail _ hq))) hs hm he
  have HT : Hid (∀ W, Dat w d (T + 10) s' L W → Calls Tryd.prog 30 #[.agg #[.pointer (some ⟨g, 0, none⟩), .int .i64 i], .int .u64 ((num + 1 : Nat) : Int), .slice A m c] W fun E w' => E = .returned (tagV (Sh.numTag i (num + 1) b)) ∧ Below W.heap.size W w') := Lib.hid fun W hD => by
    obtain ⟨k1, k2⟩ := hD.kis hk h0
    exact tag_any _ i (num + 1) (hb.rd hD (fun _ h => h)) hs (by omega) k1 k2
  have hwr : IntKind.u64.wrap ((num : Int) + 1) = ((num + 1 : Nat) : Int) := by rw [IntKind.wrap_u64]; omega
  have hTL := Sh.numTag_length i (num + 1) b
  generalize Sh.numTag i (num + 1) b = tg at HT hTL ⊢
  have HI : Hid ((Tryd.prog.info? 36).map (·.size) = some (u8s tg).length) := Lib.hid (tag_info hTL)
  have HOT : Hid (∀ v ∈ u8s tg, v.oneCell' = true) := Lib.hid (u8s_one _)
  have HLL : Hid (Z.length = (u8s tg).length) := Lib.hid (by rw [hZ, u8s_length, u8s_length, hTL]; rfl)
  obtain ⟨n1, hn1⟩ : ∃ n1, n1 = num + 1 := ⟨_, rfl⟩
  rw [← hn1] at HSL HT hwr ⊢
  generalize hbb : Oct.be 8 n1 ++ b = bb at HSL ⊢
  clear h h' hu hb hZ hTL hbb hn1 hrE hk he hnum htop
  by_cases he0 : e = 0
  · subst he0
    rw [if_pos rfl, if_pos rfl]
    unfold tagV at *
    clear hbd HIZ HOZ HZZ
    go_enter Tryd.func16, Tryd.ntmps16
    go_wp2_with fail
    refine HR.out.mono ?_
    rintro E w1 ⟨rfl, HB⟩
    obtain ⟨c0, c1⟩ := usOf_cells ((HO.out.next HB.out).get (.tail _ HU.out))
    clear HR
    go_wp2_with fail
    refine (HSE.out _ HB.out).mono ?_
    rintro E w2 ⟨A2, c2, k2, rfl, HB2'⟩
    have HB2 : Hid (Below (wr.alloc (.cells Z.toArray 36)).heap.size (wr.alloc (.cells Z.toArray 36)) w2) := Lib.hid (HB.out.trans (HB2'.out.mono HB.out.size))
    obtain ⟨c0, c1⟩ := usOf_cells ((HO.out.next HB2.out).get (.tail _ HU.out))
    clear HSE HB2' HB
    go_wp2_with fail
    refine (HSL.out _ HB2.out).mono ?_
    rintro E w3 ⟨rfl, H3⟩
    obtain ⟨c0, c1⟩ := usOf_cells (H3.out.get (.tail _ HU.out))
    clear HSL HB2
    go_wp2_with fail
    refine (HT.out _ (H3.out.sub (fun p hp => .tail _ hp)).dat).mono ?_
    rintro E w4 ⟨rfl, hb4⟩
    have H4 : Hid (SealEnd w d (T + 10) s' x ((wr.heap.size, .cells Z.toArray 36 (0, 0)) :: L) g bb (1 - slot) 0 w4) := Lib.hid (by
      rcases H3.out with ⟨h, _⟩ | ⟨h1, h2⟩
      · exact absurd rfl h
      · exact .inr ⟨h1, h2.next hb4⟩)
    clear hb4 H3
    go_wp2_with (first
      | (refine wpList_store_all rfl 36 (.tmp 5) (.tmp 46) rfl wr.heap.size Z (u8s tg) 36 (H4.out.get (.head _)) HLL.out rfl rfl HI.out HOT.out ?_; intro w5 G5))
    exact bodyPost_ret (ret_tct (cs := u8s tg) rfl rfl rfl rfl (range_block G5.out.1 0 _ (fun j v hv => by rw [Nat.zero_add]; exact hv)) Tryd.underlying36 rfl HI.out) rfl ⟨rfl, Lib.hid (H4.out.write HL.out G5.out.1 G5.out.2)⟩
  · rw [if_neg he0, if_neg he0]
    have hz0 : (e == 0) = false := by simpa using he0
    unfold tagV
    rw [← HZZ.out]
    clear HI HOT HLL HT HZZ he0
    go_enter Tryd.func16, Tryd.ntmps16
    go_wp2_with fail
    refine HR.out.mono ?_
    rintro E w1 ⟨rfl, HB⟩
    obtain ⟨c0, c1⟩ := usOf_cells ((HO.out.next HB.out).get (.tail _ HU.out))
    clear HR
    go_wp2_with fail
    refine (HSE.out _ HB.out).mono ?_
    rintro E w2 ⟨A2, c2, k2, rfl, HB2'⟩
    have HB2 : Hid (Below (wr.alloc (.cells Z.toArray 36)).heap.size (wr.alloc (.cells Z.toArray 36)) w2) := Lib.hid (HB.out.trans (HB2'.out.mono HB.out.size))
    obtain ⟨c0, c1⟩ := usOf_cells ((HO.out.next HB2.out).get (.tail _ HU.out))
    clear HSE HB2' HB
    go_wp2_with fail
    refine (HSL.out _ HB2.out).mono ?_
    rintro E w3 ⟨rfl, H3⟩
    have HG3 : Hid (w3.heap[wr.heap.size]? = some (.cells Z.toArray 36 (0, 0))) := Lib.hid (H3.out.get (.head _))
    go_wp2_with (first
      | (refine wpList_store_all rfl 36 (.tmp 5) (.tmp 37) rfl wr.heap.size Z Z 36 HG3.out rfl rfl rfl HIZ.out HOZ.out ?_; intro w5 G5))
    exact bodyPost_ret (ret_tct (cs := Z) rfl rfl rfl rfl (range_block G5.out.1 0 _ (fun j v hv => by rw [Nat.zero_add]; exact hv)) Tryd.underlying36 rfl HIZ.out) rfl ⟨rfl, Lib.hid (H3.out.write HL.out G5.out.1 G5.out.2)⟩
end
end Go.Proofs.YtepjfkmbmcfnoaaDoor
