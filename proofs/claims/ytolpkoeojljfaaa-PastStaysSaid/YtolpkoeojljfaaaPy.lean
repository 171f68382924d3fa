/-
  What is proved: PastStays' walk. Conditions as stated.
-/
import Derived.Test.YtolpkoeojljfaaaPx
namespace Go.Proofs.Ytolpkoeojljfaaa
open Go.RowKit
set_option maxRecDepth 100000

structure RelS (W wr : World) (b j : Nat) (p : MPast) : Prop where
  pa : PaIs W wr [] b p
  inv : InvP p (1073741824 + j)
set_option maxHeartbeats 8000000 in
theorem stays_by (W : World) (A : Option Addr) (c : Nat) (xs : List MStep) (hx : Sts W A xs) (hw : ∀ x ∈ xs, x.Wf) (hn : ¬ xs.length > 200) :
    Calls Try.prog 4 #[.slice A xs.length c] W fun E W' => E = .returned (.bool true) ∧ Below W.heap.size W W' := by
  have HN := Lib.hid (new_any (Fr.start W))
  have HW : Hid (∀ W' os, Fr W W' os → Calls Try.prog 7 #[] W' fun E W'' => E = .returned (.bool true) ∧ Below W.heap.size W W'') := Lib.hid fun W' os hf => (works_any hf).mono fun E W'' h => ⟨h.1, h.2.bel⟩
  obtain ⟨n, hnn⟩ : ∃ n, n = xs.length := ⟨_, rfl⟩
  have HNn := Lib.hid hnn
  rw [← hnn] at hn ⊢
  have hn' : ¬ (n : Int) > 200 := by omega
  have HX := Lib.hid hx
  have HWf := Lib.hid hw
  clear hnn hx hw
  go_enter Try.func4, Try.ntmps4
  go_wp2_with (go_at_call 8; refine HN.out.mono ?_; rintro E w1 ⟨b, rfl, h⟩; have H1 := Lib.hid h; clear h)
  go_loopw [4] (fun v4 wr => ∃ (j : Nat) (p : MPast), j ≤ n ∧ v4 = .int .i64 (j : Int) ∧ Hid (RelS W wr b j p)) (fun v4 _ => n - (intOf v4).toNat)
  case atStart => exact ⟨0, .new, Nat.zero_le _, rfl, Lib.hid ⟨H1.out, inv_new _⟩⟩
  case round =>
    obtain ⟨j, p, hj, rfl, HR⟩ := hrel
    by_cases hlt : j < n
    · obtain ⟨x, hx⟩ : ∃ x, xs[j]? = some x := ⟨_, List.getElem?_eq_getElem (by have := HNn.out; omega)⟩
      obtain ⟨b0, o0, rfl, hb0, hcell⟩ := HX.out (by have := HNn.out; omega)
      have hxw := HWf.out x (List.mem_of_getElem? hx)
      have hrgA : ∀ W', Below W.heap.size W W' → W'.rangeAt b0 (o0 + j * 4) (stC x) := fun W' hb i u hu => (hb.cell (p := ⟨b0, _, none⟩) hb0).trans (hcell j x hx i u hu)
      obtain ⟨op, xv, xk, xl⟩ := x
      have HRg : Hid (∀ W', Below W.heap.size W W' → W'.cell? ⟨b0, o0 + j * 4, none⟩ = some (.int .u8 (op : Int)) ∧ W'.cell? ⟨b0, o0 + j * 4 + 1, none⟩ = some (.int .u64 (xv : Int)) ∧ W'.cell? ⟨b0, o0 + j * 4 + 2, none⟩ = some (.int .u64 (xk : Int)) ∧ W'.cell? ⟨b0, o0 + j * 4 + 3, none⟩ = some (.int .i64 xl)) := Lib.hid fun W' hb => ⟨hrgA W' hb 0 _ rfl, hrgA W' hb 1 _ rfl, hrgA W' hb 2 _ rfl, hrgA W' hb 3 _ rfl⟩
      have q3 : wr.cell? ⟨b0, o0 + j * 4 + 3, none⟩ = some (.int .i64 xl) := hrgA wr HR.out.pa.fr.bel 3 _ rfl
      have HWx := Lib.hid hxw
      have HJ : Hid (j ≤ 1000000) := Lib.hid (by omega)
      clear hcell hrgA hx hb0 hxw
      by_cases hbig : 1073741824 < xl
      · have HFr : Hid (Fr W wr []) := Lib.hid HR.out.pa.fr
        go_wp2_with (go_at_call 7; refine (HW.out _ _ HFr.out).mono ?_; rintro E w3 ⟨rfl, h⟩; have h2 := Lib.hid h; clear h)
        go_ret
        exact ⟨rfl, h2.out⟩
      have hbig' : decide (1073741824 < xl) = false := decide_eq_false hbig
      have HLo : Hid (xl ≤ 1073741824) := Lib.hid (by omega)
      obtain ⟨X, q, hd⟩ : ∃ X q, doR p ⟨op, xv, xk, xl⟩ = (X, q) := ⟨_, _, rfl⟩
      have Hd := Lib.hid hd
      have HK := Lib.hid (doR_keeps hd)
      have HI : Hid (InvP q (1073741824 + (j + 1))) := Lib.hid (by
        have := HR.out.inv.step (x := ⟨op, xv, xk, xl⟩) (by have := HJ.out; omega) (by omega) HLo.out
        rw [hd] at this
        exact this)
      have HD : Hid (∀ W' os, PaIs W W' os b p → Calls Try.prog 10 #[.pointer (some ⟨b, 0, none⟩), .agg #[.int .u8 (op : Int), .int .u64 (xv : Int), .int .u64 (xk : Int), .int .i64 xl]] W' fun E W'' => E = .returned (.bool X) ∧ PaIs W W'' os b q) := Lib.hid fun W' os hb => by
        have h := does_any hb (x := ⟨op, xv, xk, xl⟩) HWx.out
        rw [hd] at h
        simp only [stC] at h
        exact h
      have HG := Lib.hid (great_lit (n := (p.great : Int)) HR.out.pa rfl)
      have HEn := Lib.hid (entered_any HR.out.pa)
      obtain ⟨len, hlen⟩ : ∃ len, len = p.L.length := ⟨_, rfl⟩
      have HLen := Lib.hid hlen
      have HL0 : Hid (0 < len) := Lib.hid (by rw [hlen]; exact List.length_pos_iff.2 HR.out.inv.ne)
      have hl1 : len ≤ 1073741824 := by have := HR.out.inv.ok.len; omega
      rw [← hlen] at HEn
      have HLX := Lib.hid hl1
      clear hd hbig hlen hl1
      obtain ⟨G, hG⟩ : ∃ G, G = p.great := ⟨_, rfl⟩
      have HGG := Lib.hid hG
      rw [← hG] at HG
      clear hG
      go_wp2_with (first
        | (go_at_call 12; refine HG.out.mono ?_; rintro E w3 ⟨rfl, rfl⟩)
        | (go_at_call 15; refine HEn.out.mono ?_; rintro E w3 ⟨Aw, cw, rfl, h⟩; have H3 := Lib.hid h; clear h))
      obtain ⟨gw, hgw⟩ : ∃ gw, Aw = some ⟨gw, 0, none⟩ := by
        obtain ⟨rv, mb, H⟩ := H3.out
        obtain ⟨g, e, _⟩ := nu_cells H.hd (by rw [List.length_map]; have := HLen.out; have := HL0.out; omega)
        exact ⟨g, e⟩
      subst hgw
      have HWas : Hid (∀ wx os, Fr W wx (nuT 23 .u64 (.slice (some ⟨gw, 0, none⟩) len cw) (p.L.map (·.1)) :: os) → ∀ (k : Nat) (a : Nat × Nat), p.L[k]? = some a → wx.cell? ⟨gw, k, none⟩ = some (.int .u64 (a.1 : Int))) := Lib.hid fun wx os hf k a hk => by
        obtain ⟨g, e, hc⟩ := nu_cells hf.hd (by rw [List.length_map]; have := HLen.out; have := HL0.out; omega)
        injection e with e
        injection e with e
        subst e
        exact hc k a.1 (by rw [List.getElem?_map, hk]; rfl)
      go_loopw [7, 8] (fun v7 v8 wx => ∃ (k : Nat) (Al : Option Addr) (cl : Nat), k ≤ len ∧ v8 = .int .i64 (k : Int) ∧ v7 = .slice Al k cl ∧ Hid (PaIs W wx [nuT 3 .i64 (.slice Al k cl) ((p.L.map (·.2)).take k), nuT 23 .u64 (.slice (some ⟨gw, 0, none⟩) len cw) (p.L.map (·.1))] b p)) (fun _ v8 _ => len - (intOf v8).toNat)
      case atStart =>
        refine ⟨0, none, 0, Nat.zero_le _, rfl, rfl, Lib.hid ?_⟩
        obtain ⟨rv, mb, H⟩ := H3.out
        exact ⟨rv, mb, (nu_nil H.swap 3 .i64).swap⟩
      case round =>
        obtain ⟨k, Al, cl, hk, rfl, rfl, HF⟩ := hrel
        by_cases hklt : k < len
        · obtain ⟨a, ha⟩ : ∃ a, p.L[k]? = some a := ⟨_, List.getElem?_eq_getElem (by have := HLen.out; omega)⟩
          have d0 := HWas.out _ _ HF.out.fr.swap k a ha
          have hva := HR.out.inv.vots ha
          have HV := Lib.hid (voted_lit (n := (a.2 : Int)) (X := true) a.1 HF.out (by have := HR.out.inv.max (List.mem_of_getElem? ha); have := HR.out.inv.top; omega) ⟨by rw [hva]; rfl, by rw [hva]; rfl⟩ rfl)
          obtain ⟨rv, mb, H⟩ := HF.out
          obtain ⟨rv', w5, r5, h5, _, _⟩ := nu_append Try.underlying44 Try.inf3 ((H.swap).below ((Below.refl _ _).alloc (Nat.le_refl _) (.cells #[.int .i64 (a.2 : Int)] 3))) 44 _ a.2 (block_cell (C := [.int .i64 (a.2 : Int)]) (heap_alloc_new _ _) 0 _ rfl) (by rw [List.length_take]; have := HLX.out; omega)
          obtain ⟨A5, c5, rfl, _⟩ := row_shape h5.hd
          have e5 : ((p.L.map (·.2)).take k ++ [a.2]) = (p.L.map (·.2)).take (k + 1) := by
            rw [List.take_add_one, List.getElem?_map, ha]; rfl
          have e6 : ((p.L.map (·.2)).take (k + 1)).length = k + 1 := by rw [List.length_take, List.length_map]; have := HLen.out; omega
          rw [e5, e6] at r5 h5
          have H5 : Hid (PaIs W w5 [nuT 3 .i64 (.slice A5 (k + 1) c5) ((p.L.map (·.2)).take (k + 1)), nuT 23 .u64 (.slice (some ⟨gw, 0, none⟩) len cw) (p.L.map (·.1))] b p) := Lib.hid ⟨rv, mb, h5.swap⟩
          clear H h5 e5 e6 hva ha
          have hlx := HLX.out
          generalize a.1 = av at d0 HV
          generalize a.2 = an at r5 HV
          go_wp2_with (first
            | (go_at_call 13; refine HV.out.mono ?_; rintro E w6 ⟨rfl, rfl⟩)
            | ((with_reducible refine wpList_append_one ?_ (.tmp 55) (.tmp 57) 44 ?_ _ _ ?_ ?_ _ w5 r5 ?_); (· rfl); (· rfl); (· rfl); (· rfl)))
          go_roundw
          case measure => simp [intOf]; omega
          case rel => exact ⟨k + 1, A5, c5, by omega, by go_num, rfl, H5⟩
        · obtain rfl : k = len := by omega
          have HF2 : Hid (PaIs W _ [nuT 3 .i64 (.slice Al k cl) (p.L.map (·.2)), nuT 23 .u64 (.slice (some ⟨gw, 0, none⟩) k cw) (p.L.map (·.1))] b p) := Lib.hid (by
            have := HF.out
            rwa [List.take_of_length_le (by rw [List.length_map]; have := HLen.out; omega)] at this)
          obtain ⟨gl, hgl⟩ : ∃ gl, Al = some ⟨gl, 0, none⟩ := by
            obtain ⟨g, e, _⟩ := nu_cells HF2.out.fr.hd (by rw [List.length_map]; have := HLen.out; have := HL0.out; omega)
            exact ⟨g, e⟩
          subst hgl
          have HLg : Hid (∀ wx os, Fr W wx (nuT 3 .i64 (.slice (some ⟨gl, 0, none⟩) k cl) (p.L.map (·.2)) :: os) → ∀ (i : Nat) (a : Nat × Nat), p.L[i]? = some a → wx.cell? ⟨gl, i, none⟩ = some (.int .i64 (a.2 : Int))) := Lib.hid fun wx os hf i a hi => by
            obtain ⟨g, e, hc⟩ := nu_cells hf.hd (by rw [List.length_map]; have := HLen.out; have := HL0.out; omega)
            injection e with e
            injection e with e
            subst e
            exact hc i a.2 (by rw [List.getElem?_map, hi]; rfl)
          obtain ⟨z0, z1, z2, z3⟩ := HRg.out _ HF2.out.fr.bel
          have HDD := Lib.hid (HD.out _ _ HF2.out)
          clear HF HD
          obtain ⟨len2, hlen2⟩ : ∃ len2, len2 = q.L.length := ⟨_, rfl⟩
          have HLen2 := Lib.hid hlen2
          have hle2 : k ≤ len2 := by have := HK.out.len; have := HLen.out; omega
          have k1 : decide (len2 < k) = false := decide_eq_false (by omega)
          have HGq : Hid (G ≤ q.great) := Lib.hid (by rw [HGG.out]; exact HK.out.great)
          have k2 : decide (q.great < G) = false := decide_eq_false (by have := HGq.out; omega)
          have HXk : Hid (X = false → len2 = k ∧ q.great = G) := Lib.hid fun hX => by
            have := HK.out.no hX
            exact ⟨by rw [hlen2, this]; exact HLen.out.symm, by rw [this]; exact HGG.out.symm⟩
          clear hlen2 hle2
          have HNow : Hid (∀ w6, PaIs W w6 [nuT 3 .i64 (.slice (some ⟨gl, 0, none⟩) k cl) (p.L.map (·.2)), nuT 23 .u64 (.slice (some ⟨gw, 0, none⟩) k cw) (p.L.map (·.1))] b q → Calls Try.prog 15 #[.pointer (some ⟨b, 0, none⟩)] w6 fun E W' => ∃ gn cn, E = .returned (.slice (some ⟨gn, 0, none⟩) len2 cn) ∧ (∀ (i : Nat) (a : Nat × Nat), q.L[i]? = some a → W'.cell? ⟨gn, i, none⟩ = some (.int .u64 (a.1 : Int))) ∧ PaIs W W' [nuT 3 .i64 (.slice (some ⟨gl, 0, none⟩) k cl) (p.L.map (·.2)), nuT 23 .u64 (.slice (some ⟨gw, 0, none⟩) k cw) (p.L.map (·.1))] b q) := Lib.hid fun w6 h6 => by
            have h := entered_any h6
            rw [← HLen2.out] at h
            refine h.mono fun E W' ⟨A7, c7, e, rv, mb, hf⟩ => ?_
            obtain ⟨g, e2, hc⟩ := nu_cells hf.hd (by rw [List.length_map]; exact List.length_pos_iff.2 HI.out.ne)
            subst e2
            exact ⟨g, c7, e, fun i a hi => hc i a.1 (by rw [List.getElem?_map, hi]; rfl), rv, mb, hf.pop⟩
          have HGr : Hid (∀ w6 os, PaIs W w6 os b q → Calls Try.prog 12 #[.pointer (some ⟨b, 0, none⟩)] w6 fun E W' => E = .returned (.int .u64 (q.great : Int)) ∧ w6 = W') := Lib.hid fun w6 os h6 => great_lit (n := (q.great : Int)) h6 rfl
          cases X with
          | false =>
            have k3 : ((len2 : Int) != (k : Int)) = false := by rw [(HXk.out rfl).1]; simp
            have k4 : ((q.great : Int) != (G : Int)) = false := by rw [(HXk.out rfl).2]; simp
            go_wp2_with (first
              | (go_at_call 10; refine HDD.out.mono ?_; rintro E w6 ⟨rfl, h⟩; have HNN := Lib.hid (HNow.out _ h); clear h)
              | (go_at_call 15; refine HNN.out.mono ?_; rintro E w7 ⟨gn, cn, rfl, hcn, h⟩; have HCn := Lib.hid hcn; have H7 := Lib.hid h; have HGR := Lib.hid (HGr.out _ _ h); clear h hcn)
              | (go_at_call 12; refine HGR.out.mono ?_; rintro E w8 ⟨rfl, rfl⟩))
            go_loopw [13] (fun v13 wx => ∃ i : Nat, i ≤ k ∧ v13 = .int .i64 (i : Int) ∧ Hid (∃ qd, wx = w7.drewN qd)) (fun v13 _ => k - (intOf v13).toNat)
            case atStart => exact ⟨0, Nat.zero_le _, rfl, Lib.hid ⟨0, rfl⟩⟩
            case round =>
              obtain ⟨i, hi, rfl, HQ⟩ := hrel
              obtain ⟨qd, hqd⟩ := HQ.out
              subst hqd
              clear HQ
              by_cases hilt : i < k
              · obtain ⟨a, ha⟩ : ∃ a, p.L[i]? = some a := ⟨_, List.getElem?_eq_getElem (by have := HLen.out; omega)⟩
                obtain ⟨a', ha', ea, hor⟩ := HK.out.at_ i a ha
                have d0 : w7.cell? ⟨gw, i, none⟩ = some (.int .u64 (a.1 : Int)) := HWas.out _ _ H7.out.fr.swap i a ha
                have d1 : w7.cell? ⟨gl, i, none⟩ = some (.int .i64 (a.2 : Int)) := HLg.out _ _ H7.out.fr i a ha
                have d2 : w7.cell? ⟨gn, i, none⟩ = some (.int .u64 (a.1 : Int)) := by have := HCn.out i a' ha'; rwa [ea] at this
                have hva := HI.out.vots ha'
                rw [ea] at hva
                have HV := Lib.hid (voted_lit (n := (a'.2 : Int)) (X := true) a.1 (H7.out.drewN qd) (by have := HR.out.inv.max (List.mem_of_getElem? ha); have := HR.out.inv.top; omega) ⟨by rw [hva]; rfl, by rw [hva]; rfl⟩ rfl)
                have HPrev : Hid (∀ i0, i = i0 + 1 → ∃ av0 : Nat, av0 < a.1 ∧ w7.cell? ⟨gw, i0, none⟩ = some (.int .u64 (av0 : Int))) := Lib.hid fun i0 e => by
                  subst e
                  obtain ⟨a0, ha0⟩ : ∃ a0, p.L[i0]? = some a0 := ⟨_, List.getElem?_eq_getElem (by have := HLen.out; omega)⟩
                  exact ⟨a0.1, HR.out.inv.rises ha0 ha, HWas.out _ _ H7.out.fr.swap i0 a0 ha0⟩
                have hlx := HLX.out
                have hi0 : (0 : Int) ≤ (i : Int) := by omega
                have hik : (i : Int) < (k : Int) := by omega
                have hil2 : (i : Int) < (len2 : Int) := by have := HK.out.len; have := HLen.out; have := HLen2.out; omega
                have hit : ((i : Int)).toNat = i := by omega
                have hor' : Hid (a'.2 = a.2) := Lib.hid (hor.elim id fun h => by cases h.2.1)
                clear ha ha' ea hor hva
                generalize a.1 = av at *
                generalize a.2 = an at *
                generalize a'.2 = an' at *
                have m1 : ((av : Int) != (av : Int)) = false := by simp
                have hsame := hor'.out
                · obtain rfl : an = an' := hsame.symm
                  have m2 : decide ((an : Int) < (an : Int)) = false := by simp
                  have m3 : ((an : Int) != (an : Int)) = false := by simp
                  clear hor'
                  rcases Nat.eq_zero_or_pos i with hz | hpos
                  · subst hz
                    have m6 : decide ((0 : Int) < ((0 : Nat) : Int)) = false := by decide
                    go_wp2_with (go_at_call 13; refine HV.out.mono ?_; rintro E w9 ⟨rfl, rfl⟩)
                    go_quiet (fail)
                    go_wp2_with fail
                    go_roundw
                    case measure => simp [intOf]; omega
                    case rel => exact ⟨0 + 1, by omega, by go_num, Lib.hid ⟨_, rfl⟩⟩
                  · obtain ⟨i0, rfl⟩ : ∃ i0, i = i0 + 1 := ⟨i - 1, by omega⟩
                    obtain ⟨av0, hav, d3⟩ := HPrev.out i0 rfl
                    have m6 : decide ((0 : Int) < ((i0 + 1 : Nat) : Int)) = true := decide_eq_true (by omega)
                    have m7 : decide (av ≤ av0) = false := decide_eq_false (by omega)
                    have m8 : IntKind.i64.wrap (((i0 + 1 : Nat) : Int) - 1) = (i0 : Int) := by rw [IntKind.wrap_i64]; omega
                    have j0 : (0 : Int) ≤ (i0 : Int) := by omega
                    have jk : (i0 : Int) < (k : Int) := by omega
                    have jt : ((i0 : Int)).toNat = i0 := by omega
                    clear hav
                    go_wp2_with (go_at_call 13; refine HV.out.mono ?_; rintro E w9 ⟨rfl, rfl⟩)
                    go_quiet (fail)
                    go_wp2_with fail
                    go_roundw
                    case measure => simp [intOf]; omega
                    case rel => exact ⟨(i0 + 1) + 1, by omega, by go_num, Lib.hid ⟨_, rfl⟩⟩
              · have H8 := Lib.hid (H7.out.drewN qd)
                go_wp2_with fail
                go_roundw
                case measure => simp [intOf]; omega
                case rel => exact ⟨j + 1, q, by omega, by go_num, Lib.hid ⟨H8.out.sub (List.nil_sublist _), HI.out⟩⟩
          | true =>
            go_wp2_with (first
              | (go_at_call 10; refine HDD.out.mono ?_; rintro E w6 ⟨rfl, h⟩; have HNN := Lib.hid (HNow.out _ h); clear h)
              | (go_at_call 15; refine HNN.out.mono ?_; rintro E w7 ⟨gn, cn, rfl, hcn, h⟩; have HCn := Lib.hid hcn; have H7 := Lib.hid h; have HGR := Lib.hid (HGr.out _ _ h); clear h hcn)
              | (go_at_call 12; refine HGR.out.mono ?_; rintro E w8 ⟨rfl, rfl⟩))
            go_loopw [13] (fun v13 wx => ∃ i : Nat, i ≤ k ∧ v13 = .int .i64 (i : Int) ∧ Hid (∃ qd, wx = w7.drewN qd)) (fun v13 _ => k - (intOf v13).toNat)
            case atStart => exact ⟨0, Nat.zero_le _, rfl, Lib.hid ⟨0, rfl⟩⟩
            case round =>
              obtain ⟨i, hi, rfl, HQ⟩ := hrel
              obtain ⟨qd, hqd⟩ := HQ.out
              subst hqd
              clear HQ
              by_cases hilt : i < k
              · obtain ⟨a, ha⟩ : ∃ a, p.L[i]? = some a := ⟨_, List.getElem?_eq_getElem (by have := HLen.out; omega)⟩
                obtain ⟨a', ha', ea, hor⟩ := HK.out.at_ i a ha
                have d0 : w7.cell? ⟨gw, i, none⟩ = some (.int .u64 (a.1 : Int)) := HWas.out _ _ H7.out.fr.swap i a ha
                have d1 : w7.cell? ⟨gl, i, none⟩ = some (.int .i64 (a.2 : Int)) := HLg.out _ _ H7.out.fr i a ha
                have d2 : w7.cell? ⟨gn, i, none⟩ = some (.int .u64 (a.1 : Int)) := by have := HCn.out i a' ha'; rwa [ea] at this
                have hva := HI.out.vots ha'
                rw [ea] at hva
                have HV := Lib.hid (voted_lit (n := (a'.2 : Int)) (X := true) a.1 (H7.out.drewN qd) (by have := HR.out.inv.max (List.mem_of_getElem? ha); have := HR.out.inv.top; omega) ⟨by rw [hva]; rfl, by rw [hva]; rfl⟩ rfl)
                have HPrev : Hid (∀ i0, i = i0 + 1 → ∃ av0 : Nat, av0 < a.1 ∧ w7.cell? ⟨gw, i0, none⟩ = some (.int .u64 (av0 : Int))) := Lib.hid fun i0 e => by
                  subst e
                  obtain ⟨a0, ha0⟩ : ∃ a0, p.L[i0]? = some a0 := ⟨_, List.getElem?_eq_getElem (by have := HLen.out; omega)⟩
                  exact ⟨a0.1, HR.out.inv.rises ha0 ha, HWas.out _ _ H7.out.fr.swap i0 a0 ha0⟩
                have hlx := HLX.out
                have hi0 : (0 : Int) ≤ (i : Int) := by omega
                have hik : (i : Int) < (k : Int) := by omega
                have hil2 : (i : Int) < (len2 : Int) := by have := HK.out.len; have := HLen.out; have := HLen2.out; omega
                have hit : ((i : Int)).toNat = i := by omega
                have hor' : Hid (a'.2 = a.2 ∨ (a'.2 = a.2 + 1 ∧ a.1 = G)) := Lib.hid (by rw [HGG.out]; exact hor.imp id fun h => ⟨h.1, h.2.2⟩)
                clear ha ha' ea hor hva
                generalize a.1 = av at *
                generalize a.2 = an at *
                generalize a'.2 = an' at *
                have m1 : ((av : Int) != (av : Int)) = false := by simp
                rcases hor'.out with hsame | hup
                · obtain rfl : an = an' := hsame.symm
                  have m2 : decide ((an : Int) < (an : Int)) = false := by simp
                  have m3 : ((an : Int) != (an : Int)) = false := by simp
                  clear hor'
                  rcases Nat.eq_zero_or_pos i with hz | hpos
                  · subst hz
                    have m6 : decide ((0 : Int) < ((0 : Nat) : Int)) = false := by decide
                    go_wp2_with (go_at_call 13; refine HV.out.mono ?_; rintro E w9 ⟨rfl, rfl⟩)
                    go_quiet (fail)
                    go_wp2_with fail
                    go_roundw
                    case measure => simp [intOf]; omega
                    case rel => exact ⟨0 + 1, by omega, by go_num, Lib.hid ⟨_, rfl⟩⟩
                  · obtain ⟨i0, rfl⟩ : ∃ i0, i = i0 + 1 := ⟨i - 1, by omega⟩
                    obtain ⟨av0, hav, d3⟩ := HPrev.out i0 rfl
                    have m6 : decide ((0 : Int) < ((i0 + 1 : Nat) : Int)) = true := decide_eq_true (by omega)
                    have m7 : decide (av ≤ av0) = false := decide_eq_false (by omega)
                    have m8 : IntKind.i64.wrap (((i0 + 1 : Nat) : Int) - 1) = (i0 : Int) := by rw [IntKind.wrap_i64]; omega
                    have j0 : (0 : Int) ≤ (i0 : Int) := by omega
                    have jk : (i0 : Int) < (k : Int) := by omega
                    have jt : ((i0 : Int)).toNat = i0 := by omega
                    clear hav
                    go_wp2_with (go_at_call 13; refine HV.out.mono ?_; rintro E w9 ⟨rfl, rfl⟩)
                    go_quiet (fail)
                    go_wp2_with fail
                    go_roundw
                    case measure => simp [intOf]; omega
                    case rel => exact ⟨(i0 + 1) + 1, by omega, by go_num, Lib.hid ⟨_, rfl⟩⟩
                · obtain ⟨h1, h3⟩ := hup
                  subst h1 h3
                  have m2 : decide (((an + 1 : Nat) : Int) < (an : Int)) = false := decide_eq_false (by omega)
                  have m3 : (((an + 1 : Nat) : Int) != (an : Int)) = true := by simp; omega
                  generalize ((an + 1 : Nat) : Int) = zn at m2 m3 HV
                  generalize (an : Int) = zm at *
                  have m4 : decide ((av : Int) < (av : Int)) = false := by simp
                  clear hor'
                  rcases Nat.eq_zero_or_pos i with hz | hpos
                  · subst hz
                    have m6 : decide ((0 : Int) < ((0 : Nat) : Int)) = false := by decide
                    go_wp2_with (go_at_call 13; refine HV.out.mono ?_; rintro E w9 ⟨rfl, rfl⟩)
                    go_quiet (fail)
                    go_wp2_with fail
                    go_roundw
                    case measure => simp [intOf]; omega
                    case rel => exact ⟨0 + 1, by omega, by go_num, Lib.hid ⟨_, rfl⟩⟩
                  · obtain ⟨i0, rfl⟩ : ∃ i0, i = i0 + 1 := ⟨i - 1, by omega⟩
                    obtain ⟨av0, hav, d3⟩ := HPrev.out i0 rfl
                    have m6 : decide ((0 : Int) < ((i0 + 1 : Nat) : Int)) = true := decide_eq_true (by omega)
                    have m7 : decide (av ≤ av0) = false := decide_eq_false (by omega)
                    have m8 : IntKind.i64.wrap (((i0 + 1 : Nat) : Int) - 1) = (i0 : Int) := by rw [IntKind.wrap_i64]; omega
                    have j0 : (0 : Int) ≤ (i0 : Int) := by omega
                    have jk : (i0 : Int) < (k : Int) := by omega
                    have jt : ((i0 : Int)).toNat = i0 := by omega
                    clear hav
                    go_wp2_with (go_at_call 13; refine HV.out.mono ?_; rintro E w9 ⟨rfl, rfl⟩)
                    go_quiet (fail)
                    go_wp2_with fail
                    go_roundw
                    case measure => simp [intOf]; omega
                    case rel => exact ⟨(i0 + 1) + 1, by omega, by go_num, Lib.hid ⟨_, rfl⟩⟩
              · have H8 := Lib.hid (H7.out.drewN qd)
                go_wp2_with fail
                go_roundw
                case measure => simp [intOf]; omega
                case rel => exact ⟨j + 1, q, by omega, by go_num, Lib.hid ⟨H8.out.sub (List.nil_sublist _), HI.out⟩⟩
    · have HFr := Lib.hid HR.out.pa.fr
      go_wp2_with (go_at_call 7; refine (HW.out _ _ HFr.out).mono ?_; rintro E w2 ⟨rfl, h⟩; have h2 := Lib.hid h; clear h)
      go_ret
      exact ⟨rfl, h2.out⟩
end Go.Proofs.Ytolpkoeojljfaaa
