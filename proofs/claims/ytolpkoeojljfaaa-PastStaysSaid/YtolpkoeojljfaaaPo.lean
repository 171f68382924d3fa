/-
  What is proved: PastOpen's walk. Conditions as stated.
-/
import Derived.Test.YtolpkoeojljfaaaPl
namespace Go.Proofs.Ytolpkoeojljfaaa
open Go.RowKit
set_option maxRecDepth 100000

theorem PaIs.box {v W : World} {os : List Thing} {b : Nat} {p : MPast} (h : PaIs v W os b p) (C : Array Value) (ty : TypeId) : PaIs v (W.alloc (.cells C ty)) (blkT W.heap.size C ty :: os) b p := let ⟨rv, mb, H⟩ := h; ⟨rv, mb, (H.box C ty).swap⟩
theorem PaIs.fr {v W : World} {os : List Thing} {b : Nat} {p : MPast} (h : PaIs v W os b p) : Fr v W os := let ⟨_, _, H⟩ := h; H.pop
theorem PaIs.sub {v W : World} {os os' : List Thing} {b : Nat} {p : MPast} (h : PaIs v W os b p) (hs : os'.Sublist os) : PaIs v W os' b p := let ⟨rv, mb, H⟩ := h; ⟨rv, mb, H.sub (hs.cons_cons _)⟩
theorem does_lit {v W : World} {os : List Thing} {b : Nat} {p q : MPast} {X : Bool} {x : MStep} (HP : PaIs v W os b p) (hx : x.Wf) (h : doR p x = (X, q)) :
    Calls Try.prog 10 #[.pointer (some ⟨b, 0, none⟩), .agg (stC x).toArray] W fun E W' => E = .returned (.bool X) ∧ PaIs v W' os b q := by
  have := does_any HP hx
  rw [h] at this
  exact this
structure RelO (W wr : World) (b j : Nat) (p : MPast) (A : Option Addr) (m c : Nat) : Prop where
  pa : PaIs W wr [nuT 23 .u64 (.slice A (m + 1) c) (p.L.map (·.1))] b p
  len : m + 1 = p.L.length
  inv : InvP p (1073741824 + j)
/-- Behind a step that enters nothing. -/
theorem RelO.next {W wr w3 : World} {b j k : Nat} {p q : MPast} {A : Option Addr} {m c : Nat} {C : Array Value} {x : MStep} {X : Bool} (h : RelO W wr b j p A m c) (hj : j ≤ 1000000) (hl : x.long ≤ 1073741824) (hd : doR p x = (X, q)) (he : q.L.map (·.1) = p.L.map (·.1))
    (HD : PaIs W w3 [blkT k C 30, nuT 23 .u64 (.slice A (m + 1) c) (p.L.map (·.1))] b q) : RelO W w3 b (j + 1) q A m c := by
  refine ⟨?_, ?_, ?_⟩
  · rw [he]; exact HD.sub (List.sublist_cons_self ..)
  · have := congrArg List.length he; rw [List.length_map, List.length_map] at this; rw [this]; exact h.len
  · have := h.inv.step (by omega) (by omega) hl; rw [hd] at this; exact this
set_option maxHeartbeats 8000000 in
theorem open_by (W : World) (A : Option Addr) (c : Nat) (xs : List MStep) (hx : Sts W A xs) (hw : ∀ x ∈ xs, x.Wf) (hn : ¬ xs.length > 120) :
    Calls Try.prog 6 #[.slice A xs.length c] W fun E W' => E = .returned (.bool true) ∧ Below W.heap.size W W' := by
  have HN := Lib.hid (new_any (Fr.start W))
  have HW : Hid (∀ W' os, Fr W W' os → Calls Try.prog 7 #[] W' fun E W'' => E = .returned (.bool true) ∧ Below W.heap.size W W'') := Lib.hid fun W' os hf => (works_any hf).mono fun E W'' h => ⟨h.1, h.2.bel⟩
  obtain ⟨n, hnn⟩ : ∃ n, n = xs.length := ⟨_, rfl⟩
  have HNn := Lib.hid hnn
  rw [← hnn] at hn ⊢
  have hn' : ¬ (n : Int) > 120 := by omega
  have HX := Lib.hid hx
  have HWf := Lib.hid hw
  clear hnn hx hw
  go_enter Try.func6, Try.ntmps6
  go_wp2_with (go_at_call 8; refine HN.out.mono ?_; rintro E w1 ⟨b, rfl, h⟩; have H1 := Lib.hid h; clear h)
  go_loopw [4, 5, 6] (fun v4 v5 v6 wr => ∃ (j : Nat) (p : MPast) (A' : Option Addr) (m c' : Nat), j ≤ n ∧ v4 = .int .u64 (p.great : Int) ∧ v5 = .slice A' (m + 1) c' ∧ v6 = .int .i64 (j : Int) ∧ Hid (RelO W wr b j p A' m c')) (fun _ _ v6 _ => n - (intOf v6).toNat)
  case atStart =>
    refine ⟨0, .new, some ⟨w1.heap.size, 0, none⟩, 0, 1, Nat.zero_le _, rfl, rfl, rfl, Lib.hid ⟨?_, rfl, inv_new _⟩⟩
    obtain ⟨rv, mb, hH⟩ := H1.out
    refine ⟨rv, mb, Fr.swap (Fr.add hH ((Below.refl _ _).alloc (Nat.le_refl _) _) (o := nuT 23 .u64 (.slice (some ⟨w1.heap.size, 0, none⟩) 1 1) [0]) (World.ownsRow_lit w1 #[.int .u64 0] 1 (Nat.zero_le _) (by decide) rfl) (nuT_ok _ _ _ _) fun k hk => ?_)⟩
    injection hk with hk
    exact Nat.le_of_eq hk
  case round =>
    obtain ⟨j, p, A', m, c', hj, rfl, rfl, rfl, HR⟩ := hrel
    by_cases hlt : j < n
    · obtain ⟨x, hx⟩ : ∃ x, xs[j]? = some x := ⟨_, List.getElem?_eq_getElem (by have := HNn.out; omega)⟩
      obtain ⟨b0, o0, rfl, hb0, hcell⟩ := HX.out (by have := HNn.out; omega)
      have hxw := HWf.out x (List.mem_of_getElem? hx)
      have hbW : Below W.heap.size W wr := HR.out.pa.fr.bel
      have hrg : wr.rangeAt b0 (o0 + j * 4) (stC x) := fun i u hu => (hbW.cell (p := ⟨b0, _, none⟩) hb0).trans (hcell j x hx i u hu)
      obtain ⟨op, xv, xk, xl⟩ := x
      have q0 : wr.cell? ⟨b0, o0 + j * 4, none⟩ = some (.int .u8 (op : Int)) := hrg 0 _ rfl
      have q1 : wr.cell? ⟨b0, o0 + j * 4 + 1, none⟩ = some (.int .u64 (xv : Int)) := hrg 1 _ rfl
      have q2 : wr.cell? ⟨b0, o0 + j * 4 + 2, none⟩ = some (.int .u64 (xk : Int)) := hrg 2 _ rfl
      have q3 : wr.cell? ⟨b0, o0 + j * 4 + 3, none⟩ = some (.int .i64 xl) := hrg 3 _ rfl
      have hop : op < 256 := hxw.op
      have hlen : p.L.length ≤ 1073741824 := HR.out.inv.ok.len
      have hm1 := HR.out.len
      have hm : (m : Int) < 1073741825 := by omega
      have hm0 : (0 : Int) ≤ (m : Int) := by omega
      have HM := Lib.hid hm1
      have HWx := Lib.hid hxw
      have HJ : Hid (j ≤ 1000000) := Lib.hid (by omega)
      clear hcell hbW hrg hx hb0 hlen hm1 hxw
      have hA : ∃ g, A' = some ⟨g, 0, none⟩ ∧ wr.rangeAt g 0 (nv .u64 (p.L.map (·.1))) := by
        have hrow := HR.out.pa.fr.hd
        have hl : (p.L.map (·.1)).length = m + 1 := by rw [List.length_map]; exact HM.out.symm
        obtain ⟨A2, c2, e, _, hs, h0⟩ := row_shape hrow
        injection e with e1 e2 e3
        subst e1
        cases A' with
        | none => have := (h0 rfl).1; omega
        | some ad => obtain ⟨g, e, hg⟩ := hs ad rfl; exact ⟨g, by rw [e], hg⟩
      obtain ⟨g, rfl, hg⟩ := hA
      have hlast : wr.cell? ⟨g, m, none⟩ = some (.int .u64 ((lst p).1 : Int)) := by
        have h1 := hg m (.int .u64 ((lst p).1 : Int)) (nv_get (by
          rw [HR.out.inv.split, List.map_append, List.getElem?_append_right (by rw [List.length_map, List.length_dropLast]; have := HM.out; omega), List.length_map, List.length_dropLast]
          have : m - (p.L.length - 1) = 0 := by have := HM.out; omega
          rw [this]; rfl))
        rwa [Nat.zero_add] at h1
      have hgl : g < wr.heap.size := World.block_lt_of_cell? wr _ hlast
      have HT := Lib.hid HR.out.inv.top
      obtain ⟨W2, hW2⟩ : ∃ X, X = wr.alloc (.cells #[.int .u8 (op : Int), .int .u64 (xv : Int), .int .u64 (xk : Int), .int .i64 xl] 30) := ⟨_, rfl⟩
      have H2 : Hid (PaIs W W2 [blkT wr.heap.size #[.int .u8 (op : Int), .int .u64 (xv : Int), .int .u64 (xk : Int), .int .i64 xl] 30, nuT 23 .u64 (.slice (some ⟨g, 0, none⟩) (m + 1) c') (p.L.map (·.1))] b p) := Lib.hid (by rw [hW2]; exact HR.out.pa.box _ _)
      have hlast2 : (wr.alloc (.cells #[.int .u8 (op : Int), .int .u64 (xv : Int), .int .u64 (xk : Int), .int .i64 xl] 30)).cell? ⟨g, m, none⟩ = some (.int .u64 ((lst p).1 : Int)) := (((Below.refl wr.heap.size wr).alloc (Nat.le_refl _) _).cell (p := ⟨g, m, none⟩) hgl).trans hlast
      have HV : Hid (Calls Try.prog 13 #[.pointer (some ⟨b, 0, none⟩), .int .u64 ((lst p).1 : Int)] W2 fun E W' => E = .returned (.tuple #[.int .i64 ((lst p).2 : Int), .bool true]) ∧ W2 = W') := Lib.hid (voted_lit (lst p).1 H2.out (by have := HT.out; omega) ⟨by rw [HR.out.inv.vot]; rfl, by rw [HR.out.inv.vot]; rfl⟩ rfl)
      have HD : Hid (∀ X q, doR p ⟨op, xv, xk, xl⟩ = (X, q) → Calls Try.prog 10 #[.pointer (some ⟨b, 0, none⟩), .agg #[.int .u8 (op : Int), .int .u64 (xv : Int), .int .u64 (xk : Int), .int .i64 xl]] W2 fun E W' => E = .returned (.bool X) ∧ PaIs W W' [blkT wr.heap.size #[.int .u8 (op : Int), .int .u64 (xv : Int), .int .u64 (xk : Int), .int .i64 xl] 30, nuT 23 .u64 (.slice (some ⟨g, 0, none⟩) (m + 1) c') (p.L.map (·.1))] b q) := Lib.hid fun X q hd => by
        have h := does_lit H2.out HWx.out hd
        simp only [stC] at h
        exact h
      rw [hW2] at HV HD
      have HI := Lib.hid HR.out.inv
      have HXC : Hid (∀ w3 q, PaIs W w3 [blkT wr.heap.size #[.int .u8 (op : Int), .int .u64 (xv : Int), .int .u64 (xk : Int), .int .i64 xl] 30, nuT 23 .u64 (.slice (some ⟨g, 0, none⟩) (m + 1) c') (p.L.map (·.1))] b q → w3.cell? ⟨wr.heap.size, 0, none⟩ = some (.int .u8 (op : Int)) ∧ w3.cell? ⟨wr.heap.size, 1, none⟩ = some (.int .u64 (xv : Int)) ∧ w3.cell? ⟨wr.heap.size, 2, none⟩ = some (.int .u64 (xk : Int)) ∧ w3.cell? ⟨wr.heap.size, 3, none⟩ = some (.int .i64 xl)) := Lib.hid fun w3 q h => by
        have h1 : w3.heap[wr.heap.size]? = some (.cells #[.int .u8 (op : Int), .int .u64 (xv : Int), .int .u64 (xk : Int), .int .i64 xl] 30 (0, 0)) := h.fr.hd
        exact ⟨block_cell h1 0 _ rfl, block_cell h1 1 _ rfl, block_cell h1 2 _ rfl, block_cell h1 3 _ rfl⟩
      have HFr : Hid (Fr W (wr.alloc (.cells #[.int .u8 (op : Int), .int .u64 (xv : Int), .int .u64 (xk : Int), .int .i64 xl] 30)) [blkT wr.heap.size #[.int .u8 (op : Int), .int .u64 (xv : Int), .int .u64 (xk : Int), .int .i64 xl] 30, nuT 23 .u64 (.slice (some ⟨g, 0, none⟩) (m + 1) c') (p.L.map (·.1))]) := Lib.hid (by rw [← hW2]; exact H2.out.fr)
      clear hW2 H2 W2 hlast hgl hg
      by_cases hbig : 1073741824 < xl
      · clear HV HD HXC
        go_wp2_with (go_at_call 7; refine (HW.out _ _ HFr.out).mono ?_; rintro E w2 ⟨rfl, h⟩; have h2 := Lib.hid h; clear h)
        go_ret
        exact ⟨rfl, h2.out⟩
      have hbig' : decide (1073741824 < xl) = false := decide_eq_false hbig
      have HLo : Hid (xl ≤ 1073741824) := Lib.hid (by omega)
      obtain ⟨l, hl⟩ : ∃ l, l = (lst p).1 := ⟨_, rfl⟩
      obtain ⟨nl, hnl⟩ : ∃ nl, nl = (lst p).2 := ⟨_, rfl⟩
      obtain ⟨G, hG⟩ : ∃ G, G = p.great := ⟨_, rfl⟩
      have ht := HT.out
      have HL := Lib.hid hl
      have HNl := Lib.hid hnl
      have HG := Lib.hid hG
      have hnl1 : nl ≤ 1074741824 := by have := HJ.out; omega
      obtain ⟨hw1, hw2⟩ := wrap_conv nl (by omega)
      rw [← hl, ← hnl] at HV
      rw [← hl] at hlast2
      rw [← hG]
      clear hl hnl hG ht hbig HT
      by_cases h0 : op % 4 = 0
      · skip
        by_cases g1 : G < xv
        · skip
          by_cases g2 : xv < 1073741824
          · skip
            have e0 : ((op : Int) % 4 == 0) = true := by simp; omega
            have k1 : decide (G < xv) = true := decide_eq_true (by omega)
            have k2 : decide ((xv : Int) < 1073741824) = true := decide_eq_true (by omega)
            have hd : doR p ⟨op, xv, xk, xl⟩ = (true, MPast.mk p.L xv) := by
              rw [doR]
              dsimp only
              rw [if_pos h0, chg_at, if_pos (by have := HG.out; omega)]
            have HDD := Lib.hid (HD.out _ _ hd)
            have Hd := Lib.hid hd
            clear hd HD HFr  g1 g2
            go_wp2_with (first | (go_at_call 13; refine HV.out.mono ?_; rintro E w2 ⟨rfl, rfl⟩) | (go_at_call 10; refine HDD.out.mono ?_; rintro E w3 ⟨rfl, h⟩; obtain ⟨x0, x1, x2, x3⟩ := HXC.out _ _ h; have H3 := Lib.hid h; clear h) | (go_at_call 12; refine (great_lit (n := (xv : Int)) H3.out (rfl)).mono ?_; rintro E w6 ⟨rfl, rfl⟩))
            go_roundw
            case measure => simp [intOf]; omega
            case rel => exact ⟨j + 1, MPast.mk p.L xv, some ⟨g, 0, none⟩, m, c', by omega, rfl, rfl, by go_num, Lib.hid (HR.out.next HJ.out HLo.out Hd.out (rfl) H3.out)⟩
          · skip
            have e0 : ((op : Int) % 4 == 0) = true := by simp; omega
            have k1 : decide (G < xv) = true := decide_eq_true (by omega)
            have k2 : decide ((xv : Int) < 1073741824) = false := decide_eq_false (by omega)
            have hd : doR p ⟨op, xv, xk, xl⟩ = (false, p) := by
              rw [doR]
              dsimp only
              rw [if_pos h0, chg_at, if_neg (by have := HG.out; omega)]
            have HDD := Lib.hid (HD.out _ _ hd)
            have Hd := Lib.hid hd
            clear hd HD HFr  g1 g2
            go_wp2_with (first | (go_at_call 13; refine HV.out.mono ?_; rintro E w2 ⟨rfl, rfl⟩) | (go_at_call 10; refine HDD.out.mono ?_; rintro E w3 ⟨rfl, h⟩; obtain ⟨x0, x1, x2, x3⟩ := HXC.out _ _ h; have H3 := Lib.hid h; clear h) | (go_at_call 12; refine (great_lit (n := (G : Int)) H3.out (by rw [HG.out])).mono ?_; rintro E w6 ⟨rfl, rfl⟩))
            go_roundw
            case measure => simp [intOf]; omega
            case rel => exact ⟨j + 1, p, some ⟨g, 0, none⟩, m, c', by omega, by rw [HG.out], rfl, by go_num, Lib.hid (HR.out.next HJ.out HLo.out Hd.out (rfl) H3.out)⟩
        · skip
          have e0 : ((op : Int) % 4 == 0) = true := by simp; omega
          have k1 : decide (G < xv) = false := decide_eq_false (by omega)
          have hd : doR p ⟨op, xv, xk, xl⟩ = (false, p) := by
            rw [doR]
            dsimp only
            rw [if_pos h0, chg_at, if_neg (by have := HG.out; omega)]
          have HDD := Lib.hid (HD.out _ _ hd)
          have Hd := Lib.hid hd
          clear hd HD HFr  g1
          go_wp2_with (first | (go_at_call 13; refine HV.out.mono ?_; rintro E w2 ⟨rfl, rfl⟩) | (go_at_call 10; refine HDD.out.mono ?_; rintro E w3 ⟨rfl, h⟩; obtain ⟨x0, x1, x2, x3⟩ := HXC.out _ _ h; have H3 := Lib.hid h; clear h) | (go_at_call 12; refine (great_lit (n := (G : Int)) H3.out (by rw [HG.out])).mono ?_; rintro E w6 ⟨rfl, rfl⟩))
          go_roundw
          case measure => simp [intOf]; omega
          case rel => exact ⟨j + 1, p, some ⟨g, 0, none⟩, m, c', by omega, by rw [HG.out], rfl, by go_num, Lib.hid (HR.out.next HJ.out HLo.out Hd.out (rfl) H3.out)⟩
      by_cases h1 : op % 4 = 1
      · skip
        by_cases g1 : l < xv
        · skip
          by_cases g2 : G ≤ xv
          · skip
            by_cases g3 : xv < 1073741824
            · skip
              by_cases g4 : 0 ≤ xl
              · skip
                have e0 : ((op : Int) % 4 == 0) = false := by simp; omega
                have e1 : ((op : Int) % 4 == 1) = true := by simp; omega
                have k1 : decide (l < xv) = true := decide_eq_true (by omega)
                have k2 : decide (G ≤ xv) = true := decide_eq_true (by omega)
                have k3 : decide ((xv : Int) < 1073741824) = true := decide_eq_true (by omega)
                have k4 : decide (0 ≤ xl) = true := decide_eq_true (by omega)
                have hd : doR p ⟨op, xv, xk, xl⟩ = (true, p.add xv xl.toNat) := by
                  rw [doR]
                  dsimp only
                  rw [if_neg h0, if_pos h1, ent_at HI.out]
                  rw [if_pos (by have := HG.out; have := HL.out; omega)]
                have HDD := Lib.hid (HD.out _ _ hd)
                have Hd := Lib.hid hd
                clear hd HD HFr  g1 g2 g3 g4
                go_wp2_with (first | (go_at_call 13; refine HV.out.mono ?_; rintro E w2 ⟨rfl, rfl⟩))
                refine HDD.out.mono ?_
                rintro E w3 ⟨rfl, h⟩
                obtain ⟨x0, x1, x2, x3⟩ := HXC.out _ _ h
                obtain ⟨rv, mb, hfr⟩ := h
                have hfa := hfr.third.below ((Below.refl _ _).alloc (Nat.le_refl _) (.cells #[.int .u64 (xv : Int)] 23))
                obtain ⟨rv', w5, r5, h5, _, _⟩ := nu_append Try.underlying39 Try.inf23 hfa 39 w3.heap.size xv (block_cell (C := [.int .u64 (xv : Int)]) (heap_alloc_new w3 _) 0 _ rfl) (by rw [List.length_map]; have := HI.out.ok.len; omega)
                obtain ⟨A5, c5, rfl, _⟩ := row_shape h5.hd
                have e5 : (p.L.map (·.1) ++ [xv]).length = m + 1 + 1 := by rw [List.length_append, List.length_map, ← HM.out]; rfl
                rw [e5] at r5 h5
                have H5 : Hid (PaIs W w5 [nuT 23 .u64 (.slice A5 (m + 1 + 1) c5) (p.L.map (·.1) ++ [xv])] b (p.add xv xl.toNat)) := Lib.hid ⟨rv, mb, (h5.swap).sub (by exact List.Sublist.cons_cons _ (List.Sublist.cons_cons _ (List.nil_sublist _)))⟩
                clear hfr hfa h5 e5 HDD
                go_wp2_with (first | ((with_reducible refine wpList_append_one ?_ (.tmp 122) (.tmp 125) 39 ?_ _ _ ?_ ?_ _ w5 r5 ?_); (· rfl); (· rfl); (· rfl); (· rfl)) | (go_at_call 12; refine (great_lit (n := (xv : Int)) H5.out rfl).mono ?_; rintro E w6 ⟨rfl, rfl⟩))
                go_roundw
                case measure => simp [intOf]; omega
                case rel =>
                  refine ⟨j + 1, p.add xv xl.toNat, A5, m + 1, c5, by omega, rfl, rfl, by go_num, Lib.hid ⟨?_, ?_, ?_⟩⟩
                  · have e9 : (p.add xv xl.toNat).L.map (·.1) = p.L.map (·.1) ++ [xv] := by simp [MPast.add]
                    rw [e9]; exact H5.out
                  · show m + 1 + 1 = (p.L ++ [(xv, xl.toNat)]).length; rw [List.length_append, ← HM.out]; rfl
                  · have := HI.out.step (x := ⟨op, xv, xk, xl⟩) (by have := HJ.out; omega) (by omega) HLo.out; rw [Hd.out] at this; exact this
              · skip
                have e0 : ((op : Int) % 4 == 0) = false := by simp; omega
                have e1 : ((op : Int) % 4 == 1) = true := by simp; omega
                have k1 : decide (l < xv) = true := decide_eq_true (by omega)
                have k2 : decide (G ≤ xv) = true := decide_eq_true (by omega)
                have k3 : decide ((xv : Int) < 1073741824) = true := decide_eq_true (by omega)
                have k4 : decide (0 ≤ xl) = false := decide_eq_false (by omega)
                have hd : doR p ⟨op, xv, xk, xl⟩ = (false, p) := by
                  rw [doR]
                  dsimp only
                  rw [if_neg h0, if_pos h1, ent_at HI.out]
                  rw [if_neg (by have := HG.out; have := HL.out; omega)]
                have HDD := Lib.hid (HD.out _ _ hd)
                have Hd := Lib.hid hd
                clear hd HD HFr  g1 g2 g3 g4
                go_wp2_with (first | (go_at_call 13; refine HV.out.mono ?_; rintro E w2 ⟨rfl, rfl⟩) | (go_at_call 10; refine HDD.out.mono ?_; rintro E w3 ⟨rfl, h⟩; obtain ⟨x0, x1, x2, x3⟩ := HXC.out _ _ h; have H3 := Lib.hid h; clear h) | (go_at_call 12; refine (great_lit (n := (G : Int)) H3.out (by rw [HG.out])).mono ?_; rintro E w6 ⟨rfl, rfl⟩))
                go_roundw
                case measure => simp [intOf]; omega
                case rel => exact ⟨j + 1, p, some ⟨g, 0, none⟩, m, c', by omega, by rw [HG.out], rfl, by go_num, Lib.hid (HR.out.next HJ.out HLo.out Hd.out (rfl) H3.out)⟩
            · skip
              have e0 : ((op : Int) % 4 == 0) = false := by simp; omega
              have e1 : ((op : Int) % 4 == 1) = true := by simp; omega
              have k1 : decide (l < xv) = true := decide_eq_true (by omega)
              have k2 : decide (G ≤ xv) = true := decide_eq_true (by omega)
              have k3 : decide ((xv : Int) < 1073741824) = false := decide_eq_false (by omega)
              have hd : doR p ⟨op, xv, xk, xl⟩ = (false, p) := by
                rw [doR]
                dsimp only
                rw [if_neg h0, if_pos h1, ent_at HI.out]
                rw [if_neg (by have := HG.out; have := HL.out; omega)]
              have HDD := Lib.hid (HD.out _ _ hd)
              have Hd := Lib.hid hd
              clear hd HD HFr  g1 g2 g3
              go_wp2_with (first | (go_at_call 13; refine HV.out.mono ?_; rintro E w2 ⟨rfl, rfl⟩) | (go_at_call 10; refine HDD.out.mono ?_; rintro E w3 ⟨rfl, h⟩; obtain ⟨x0, x1, x2, x3⟩ := HXC.out _ _ h; have H3 := Lib.hid h; clear h) | (go_at_call 12; refine (great_lit (n := (G : Int)) H3.out (by rw [HG.out])).mono ?_; rintro E w6 ⟨rfl, rfl⟩))
              go_roundw
              case measure => simp [intOf]; omega
              case rel => exact ⟨j + 1, p, some ⟨g, 0, none⟩, m, c', by omega, by rw [HG.out], rfl, by go_num, Lib.hid (HR.out.next HJ.out HLo.out Hd.out (rfl) H3.out)⟩
          · skip
            have e0 : ((op : Int) % 4 == 0) = false := by simp; omega
            have e1 : ((op : Int) % 4 == 1) = true := by simp; omega
            have k1 : decide (l < xv) = true := decide_eq_true (by omega)
            have k2 : decide (G ≤ xv) = false := decide_eq_false (by omega)
            have hd : doR p ⟨op, xv, xk, xl⟩ = (false, p) := by
              rw [doR]
              dsimp only
              rw [if_neg h0, if_pos h1, ent_at HI.out]
              rw [if_neg (by have := HG.out; have := HL.out; omega)]
            have HDD := Lib.hid (HD.out _ _ hd)
            have Hd := Lib.hid hd
            clear hd HD HFr  g1 g2
            go_wp2_with (first | (go_at_call 13; refine HV.out.mono ?_; rintro E w2 ⟨rfl, rfl⟩) | (go_at_call 10; refine HDD.out.mono ?_; rintro E w3 ⟨rfl, h⟩; obtain ⟨x0, x1, x2, x3⟩ := HXC.out _ _ h; have H3 := Lib.hid h; clear h) | (go_at_call 12; refine (great_lit (n := (G : Int)) H3.out (by rw [HG.out])).mono ?_; rintro E w6 ⟨rfl, rfl⟩))
            go_roundw
            case measure => simp [intOf]; omega
            case rel => exact ⟨j + 1, p, some ⟨g, 0, none⟩, m, c', by omega, by rw [HG.out], rfl, by go_num, Lib.hid (HR.out.next HJ.out HLo.out Hd.out (rfl) H3.out)⟩
        · skip
          have e0 : ((op : Int) % 4 == 0) = false := by simp; omega
          have e1 : ((op : Int) % 4 == 1) = true := by simp; omega
          have k1 : decide (l < xv) = false := decide_eq_false (by omega)
          have hd : doR p ⟨op, xv, xk, xl⟩ = (false, p) := by
            rw [doR]
            dsimp only
            rw [if_neg h0, if_pos h1, ent_at HI.out]
            rw [if_neg (by have := HG.out; have := HL.out; omega)]
          have HDD := Lib.hid (HD.out _ _ hd)
          have Hd := Lib.hid hd
          clear hd HD HFr  g1
          go_wp2_with (first | (go_at_call 13; refine HV.out.mono ?_; rintro E w2 ⟨rfl, rfl⟩) | (go_at_call 10; refine HDD.out.mono ?_; rintro E w3 ⟨rfl, h⟩; obtain ⟨x0, x1, x2, x3⟩ := HXC.out _ _ h; have H3 := Lib.hid h; clear h) | (go_at_call 12; refine (great_lit (n := (G : Int)) H3.out (by rw [HG.out])).mono ?_; rintro E w6 ⟨rfl, rfl⟩))
          go_roundw
          case measure => simp [intOf]; omega
          case rel => exact ⟨j + 1, p, some ⟨g, 0, none⟩, m, c', by omega, by rw [HG.out], rfl, by go_num, Lib.hid (HR.out.next HJ.out HLo.out Hd.out (rfl) H3.out)⟩
      by_cases h2 : op % 4 = 2
      · skip
        by_cases g1 : l = G
        · skip
          by_cases g2 : xv = l
          · skip
            have e0 : ((op : Int) % 4 == 0) = false := by simp; omega
            have e1 : ((op : Int) % 4 == 1) = false := by simp; omega
            have e2 : ((op : Int) % 4 == 2) = true := by simp; omega
            have k1 : ((l : Int) == (G : Int)) = true := by simp; omega
            have k2 : ((xv : Int) == (l : Int)) = true := by simp; omega
            have hd : doR p ⟨op, xv, xk, xl⟩ = (true, p.bump) := by
              rw [doR]
              dsimp only
              rw [if_neg h0, if_neg h1, if_pos h2, prp_at HI.out (by have := HJ.out; omega)]
              rw [if_pos (by have := HG.out; have := HL.out; omega)]
            have HDD := Lib.hid (HD.out _ _ hd)
            have Hd := Lib.hid hd
            clear hd HD HFr  g1 g2
            go_wp2_with (first | (go_at_call 13; refine HV.out.mono ?_; rintro E w2 ⟨rfl, rfl⟩) | (go_at_call 10; refine HDD.out.mono ?_; rintro E w3 ⟨rfl, h⟩; obtain ⟨x0, x1, x2, x3⟩ := HXC.out _ _ h; have H3 := Lib.hid h; clear h) | (go_at_call 12; refine (great_lit (n := (G : Int)) H3.out (by rw [HG.out]; rfl)).mono ?_; rintro E w6 ⟨rfl, rfl⟩))
            go_roundw
            case measure => simp [intOf]; omega
            case rel => exact ⟨j + 1, p.bump, some ⟨g, 0, none⟩, m, c', by omega, by rw [HG.out]; rfl, rfl, by go_num, Lib.hid (HR.out.next HJ.out HLo.out Hd.out (bump_fst _ _) H3.out)⟩
          · skip
            have e0 : ((op : Int) % 4 == 0) = false := by simp; omega
            have e1 : ((op : Int) % 4 == 1) = false := by simp; omega
            have e2 : ((op : Int) % 4 == 2) = true := by simp; omega
            have k1 : ((l : Int) == (G : Int)) = true := by simp; omega
            have k2 : ((xv : Int) == (l : Int)) = false := by simp; omega
            have hd : doR p ⟨op, xv, xk, xl⟩ = (false, p) := by
              rw [doR]
              dsimp only
              rw [if_neg h0, if_neg h1, if_pos h2, prp_at HI.out (by have := HJ.out; omega)]
              rw [if_neg (by have := HG.out; have := HL.out; omega)]
            have HDD := Lib.hid (HD.out _ _ hd)
            have Hd := Lib.hid hd
            clear hd HD HFr  g1 g2
            go_wp2_with (first | (go_at_call 13; refine HV.out.mono ?_; rintro E w2 ⟨rfl, rfl⟩) | (go_at_call 10; refine HDD.out.mono ?_; rintro E w3 ⟨rfl, h⟩; obtain ⟨x0, x1, x2, x3⟩ := HXC.out _ _ h; have H3 := Lib.hid h; clear h) | (go_at_call 12; refine (great_lit (n := (G : Int)) H3.out (by rw [HG.out])).mono ?_; rintro E w6 ⟨rfl, rfl⟩))
            go_roundw
            case measure => simp [intOf]; omega
            case rel => exact ⟨j + 1, p, some ⟨g, 0, none⟩, m, c', by omega, by rw [HG.out], rfl, by go_num, Lib.hid (HR.out.next HJ.out HLo.out Hd.out (rfl) H3.out)⟩
        · skip
          have e0 : ((op : Int) % 4 == 0) = false := by simp; omega
          have e1 : ((op : Int) % 4 == 1) = false := by simp; omega
          have e2 : ((op : Int) % 4 == 2) = true := by simp; omega
          have k1 : ((l : Int) == (G : Int)) = false := by simp; omega
          have hd : doR p ⟨op, xv, xk, xl⟩ = (false, p) := by
            rw [doR]
            dsimp only
            rw [if_neg h0, if_neg h1, if_pos h2, prp_at HI.out (by have := HJ.out; omega)]
            rw [if_neg (by have := HG.out; have := HL.out; omega)]
          have HDD := Lib.hid (HD.out _ _ hd)
          have Hd := Lib.hid hd
          clear hd HD HFr  g1
          go_wp2_with (first | (go_at_call 13; refine HV.out.mono ?_; rintro E w2 ⟨rfl, rfl⟩) | (go_at_call 10; refine HDD.out.mono ?_; rintro E w3 ⟨rfl, h⟩; obtain ⟨x0, x1, x2, x3⟩ := HXC.out _ _ h; have H3 := Lib.hid h; clear h) | (go_at_call 12; refine (great_lit (n := (G : Int)) H3.out (by rw [HG.out])).mono ?_; rintro E w6 ⟨rfl, rfl⟩))
          go_roundw
          case measure => simp [intOf]; omega
          case rel => exact ⟨j + 1, p, some ⟨g, 0, none⟩, m, c', by omega, by rw [HG.out], rfl, by go_num, Lib.hid (HR.out.next HJ.out HLo.out Hd.out (rfl) H3.out)⟩
      by_cases g1 : l = G
      · skip
        by_cases g2 : xv = l
        · skip
          by_cases g3 : xk = nl + 1
          · skip
            by_cases g4 : 0 ≤ xl
            · skip
              by_cases g5 : (xk : Int) ≤ xl
              · skip
                have e0 : ((op : Int) % 4 == 0) = false := by simp; omega
                have e1 : ((op : Int) % 4 == 1) = false := by simp; omega
                have e2 : ((op : Int) % 4 == 2) = false := by simp; omega
                have k1 : ((l : Int) == (G : Int)) = true := by simp; omega
                have k2 : ((xv : Int) == (l : Int)) = true := by simp; omega
                have k3 : ((xk : Int) == (nl : Int) + 1) = true := by simp; omega
                have k4 : decide (0 ≤ xl) = true := decide_eq_true (by omega)
                have hw3 : IntKind.u64.wrap xl = xl := by rw [IntKind.wrap_u64]; have := HLo.out; omega
                have k5 : decide ((xk : Int) ≤ xl) = true := decide_eq_true (by omega)
                have hd : doR p ⟨op, xv, xk, xl⟩ = (true, p.bump) := by
                  rw [doR]
                  dsimp only
                  rw [if_neg h0, if_neg h1, if_neg h2, cmt_at HI.out]
                  rw [if_pos (by have := HG.out; have := HL.out; have := HNl.out; omega)]
                have HDD := Lib.hid (HD.out _ _ hd)
                have Hd := Lib.hid hd
                clear hd HD HFr  g1 g2 g3 g4 g5
                go_wp2_with (first | (go_at_call 13; refine HV.out.mono ?_; rintro E w2 ⟨rfl, rfl⟩) | (go_at_call 10; refine HDD.out.mono ?_; rintro E w3 ⟨rfl, h⟩; obtain ⟨x0, x1, x2, x3⟩ := HXC.out _ _ h; have H3 := Lib.hid h; clear h) | (go_at_call 12; refine (great_lit (n := (G : Int)) H3.out (by rw [HG.out]; rfl)).mono ?_; rintro E w6 ⟨rfl, rfl⟩))
                go_roundw
                case measure => simp [intOf]; omega
                case rel => exact ⟨j + 1, p.bump, some ⟨g, 0, none⟩, m, c', by omega, by rw [HG.out]; rfl, rfl, by go_num, Lib.hid (HR.out.next HJ.out HLo.out Hd.out (bump_fst _ _) H3.out)⟩
              · skip
                have e0 : ((op : Int) % 4 == 0) = false := by simp; omega
                have e1 : ((op : Int) % 4 == 1) = false := by simp; omega
                have e2 : ((op : Int) % 4 == 2) = false := by simp; omega
                have k1 : ((l : Int) == (G : Int)) = true := by simp; omega
                have k2 : ((xv : Int) == (l : Int)) = true := by simp; omega
                have k3 : ((xk : Int) == (nl : Int) + 1) = true := by simp; omega
                have k4 : decide (0 ≤ xl) = true := decide_eq_true (by omega)
                have hw3 : IntKind.u64.wrap xl = xl := by rw [IntKind.wrap_u64]; have := HLo.out; omega
                have k5 : decide ((xk : Int) ≤ xl) = false := decide_eq_false (by omega)
                have hd : doR p ⟨op, xv, xk, xl⟩ = (false, p) := by
                  rw [doR]
                  dsimp only
                  rw [if_neg h0, if_neg h1, if_neg h2, cmt_at HI.out]
                  rw [if_neg (by have := HG.out; have := HL.out; have := HNl.out; omega)]
                have HDD := Lib.hid (HD.out _ _ hd)
                have Hd := Lib.hid hd
                clear hd HD HFr  g1 g2 g3 g4 g5
                go_wp2_with (first | (go_at_call 13; refine HV.out.mono ?_; rintro E w2 ⟨rfl, rfl⟩) | (go_at_call 10; refine HDD.out.mono ?_; rintro E w3 ⟨rfl, h⟩; obtain ⟨x0, x1, x2, x3⟩ := HXC.out _ _ h; have H3 := Lib.hid h; clear h) | (go_at_call 12; refine (great_lit (n := (G : Int)) H3.out (by rw [HG.out])).mono ?_; rintro E w6 ⟨rfl, rfl⟩))
                go_roundw
                case measure => simp [intOf]; omega
                case rel => exact ⟨j + 1, p, some ⟨g, 0, none⟩, m, c', by omega, by rw [HG.out], rfl, by go_num, Lib.hid (HR.out.next HJ.out HLo.out Hd.out (rfl) H3.out)⟩
            · skip
              have e0 : ((op : Int) % 4 == 0) = false := by simp; omega
              have e1 : ((op : Int) % 4 == 1) = false := by simp; omega
              have e2 : ((op : Int) % 4 == 2) = false := by simp; omega
              have k1 : ((l : Int) == (G : Int)) = true := by simp; omega
              have k2 : ((xv : Int) == (l : Int)) = true := by simp; omega
              have k3 : ((xk : Int) == (nl : Int) + 1) = true := by simp; omega
              have k4 : decide (0 ≤ xl) = false := decide_eq_false (by omega)
              have hd : doR p ⟨op, xv, xk, xl⟩ = (false, p) := by
                rw [doR]
                dsimp only
                rw [if_neg h0, if_neg h1, if_neg h2, cmt_at HI.out]
                rw [if_neg (by have := HG.out; have := HL.out; have := HNl.out; omega)]
              have HDD := Lib.hid (HD.out _ _ hd)
              have Hd := Lib.hid hd
              clear hd HD HFr  g1 g2 g3 g4
              go_wp2_with (first | (go_at_call 13; refine HV.out.mono ?_; rintro E w2 ⟨rfl, rfl⟩) | (go_at_call 10; refine HDD.out.mono ?_; rintro E w3 ⟨rfl, h⟩; obtain ⟨x0, x1, x2, x3⟩ := HXC.out _ _ h; have H3 := Lib.hid h; clear h) | (go_at_call 12; refine (great_lit (n := (G : Int)) H3.out (by rw [HG.out])).mono ?_; rintro E w6 ⟨rfl, rfl⟩))
              go_roundw
              case measure => simp [intOf]; omega
              case rel => exact ⟨j + 1, p, some ⟨g, 0, none⟩, m, c', by omega, by rw [HG.out], rfl, by go_num, Lib.hid (HR.out.next HJ.out HLo.out Hd.out (rfl) H3.out)⟩
          · skip
            have e0 : ((op : Int) % 4 == 0) = false := by simp; omega
            have e1 : ((op : Int) % 4 == 1) = false := by simp; omega
            have e2 : ((op : Int) % 4 == 2) = false := by simp; omega
            have k1 : ((l : Int) == (G : Int)) = true := by simp; omega
            have k2 : ((xv : Int) == (l : Int)) = true := by simp; omega
            have k3 : ((xk : Int) == (nl : Int) + 1) = false := by simp; omega
            have hd : doR p ⟨op, xv, xk, xl⟩ = (false, p) := by
              rw [doR]
              dsimp only
              rw [if_neg h0, if_neg h1, if_neg h2, cmt_at HI.out]
              rw [if_neg (by have := HG.out; have := HL.out; have := HNl.out; omega)]
            have HDD := Lib.hid (HD.out _ _ hd)
            have Hd := Lib.hid hd
            clear hd HD HFr  g1 g2 g3
            go_wp2_with (first | (go_at_call 13; refine HV.out.mono ?_; rintro E w2 ⟨rfl, rfl⟩) | (go_at_call 10; refine HDD.out.mono ?_; rintro E w3 ⟨rfl, h⟩; obtain ⟨x0, x1, x2, x3⟩ := HXC.out _ _ h; have H3 := Lib.hid h; clear h) | (go_at_call 12; refine (great_lit (n := (G : Int)) H3.out (by rw [HG.out])).mono ?_; rintro E w6 ⟨rfl, rfl⟩))
            go_roundw
            case measure => simp [intOf]; omega
            case rel => exact ⟨j + 1, p, some ⟨g, 0, none⟩, m, c', by omega, by rw [HG.out], rfl, by go_num, Lib.hid (HR.out.next HJ.out HLo.out Hd.out (rfl) H3.out)⟩
        · skip
          have e0 : ((op : Int) % 4 == 0) = false := by simp; omega
          have e1 : ((op : Int) % 4 == 1) = false := by simp; omega
          have e2 : ((op : Int) % 4 == 2) = false := by simp; omega
          have k1 : ((l : Int) == (G : Int)) = true := by simp; omega
          have k2 : ((xv : Int) == (l : Int)) = false := by simp; omega
          have hd : doR p ⟨op, xv, xk, xl⟩ = (false, p) := by
            rw [doR]
            dsimp only
            rw [if_neg h0, if_neg h1, if_neg h2, cmt_at HI.out]
            rw [if_neg (by have := HG.out; have := HL.out; have := HNl.out; omega)]
          have HDD := Lib.hid (HD.out _ _ hd)
          have Hd := Lib.hid hd
          clear hd HD HFr  g1 g2
          go_wp2_with (first | (go_at_call 13; refine HV.out.mono ?_; rintro E w2 ⟨rfl, rfl⟩) | (go_at_call 10; refine HDD.out.mono ?_; rintro E w3 ⟨rfl, h⟩; obtain ⟨x0, x1, x2, x3⟩ := HXC.out _ _ h; have H3 := Lib.hid h; clear h) | (go_at_call 12; refine (great_lit (n := (G : Int)) H3.out (by rw [HG.out])).mono ?_; rintro E w6 ⟨rfl, rfl⟩))
          go_roundw
          case measure => simp [intOf]; omega
          case rel => exact ⟨j + 1, p, some ⟨g, 0, none⟩, m, c', by omega, by rw [HG.out], rfl, by go_num, Lib.hid (HR.out.next HJ.out HLo.out Hd.out (rfl) H3.out)⟩
      · skip
        have e0 : ((op : Int) % 4 == 0) = false := by simp; omega
        have e1 : ((op : Int) % 4 == 1) = false := by simp; omega
        have e2 : ((op : Int) % 4 == 2) = false := by simp; omega
        have k1 : ((l : Int) == (G : Int)) = false := by simp; omega
        have hd : doR p ⟨op, xv, xk, xl⟩ = (false, p) := by
          rw [doR]
          dsimp only
          rw [if_neg h0, if_neg h1, if_neg h2, cmt_at HI.out]
          rw [if_neg (by have := HG.out; have := HL.out; have := HNl.out; omega)]
        have HDD := Lib.hid (HD.out _ _ hd)
        have Hd := Lib.hid hd
        clear hd HD HFr  g1
        go_wp2_with (first | (go_at_call 13; refine HV.out.mono ?_; rintro E w2 ⟨rfl, rfl⟩) | (go_at_call 10; refine HDD.out.mono ?_; rintro E w3 ⟨rfl, h⟩; obtain ⟨x0, x1, x2, x3⟩ := HXC.out _ _ h; have H3 := Lib.hid h; clear h) | (go_at_call 12; refine (great_lit (n := (G : Int)) H3.out (by rw [HG.out])).mono ?_; rintro E w6 ⟨rfl, rfl⟩))
        go_roundw
        case measure => simp [intOf]; omega
        case rel => exact ⟨j + 1, p, some ⟨g, 0, none⟩, m, c', by omega, by rw [HG.out], rfl, by go_num, Lib.hid (HR.out.next HJ.out HLo.out Hd.out (rfl) H3.out)⟩
    · have HFr := Lib.hid HR.out.pa.fr
      go_wp2_with (go_at_call 7; refine (HW.out _ _ HFr.out).mono ?_; rintro E w2 ⟨rfl, h⟩; have h2 := Lib.hid h; clear h)
      go_ret
      exact ⟨rfl, h2.out⟩
end Go.Proofs.Ytolpkoeojljfaaa
