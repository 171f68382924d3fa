/-
  What is proved: SessionPlays' walk. Conditions as stated.
-/
import Derived.Test.YtflenghnmflenaaDoorUb
namespace Go.Proofs.YtflenghnmflenaaDoor
open Go.RowKit
set_option maxRecDepth 100000

set_option maxHeartbeats 32000000 in
theorem plays_walk {w : World} (hv : Vars w) (FA : Option Addr) (fc : Nat) (T0 : List Lst) (hF : Lss w FA T0) (hF0 : FA = none → fc = 0) (hFn : T0.length ≤ 140737488355328) (A : Option Addr) (c0 : Nat) (qs : List MRq) (hQ : Rqs w A qs) (hn : qs.length ≤ 1099511627776) (cl : Int) :
    Calls Tryd.prog 3 #[.slice FA T0.length fc, .slice A qs.length c0, .int .i64 cl] w fun E w' => E = .returned (.bool true) ∧ Below w.heap.size w w' := by
  have HW : Hid (∀ W, Below w.heap.size w W → Calls Tryd.prog 9 #[] W fun E w' => E = .returned (.bool true) ∧ Below W.heap.size W w') := Lib.hid fun W hb => works_any (hv.below hb)
  have HF := Lib.hid (sfew_any A c0 qs w hQ hn)
  have HV := Lib.hid hv
  have HB0 := Lib.hid (Below.refl w.heap.size w)
  have HReq := Lib.hid (rqs_at hQ)
  have HInfo : Hid (∀ q ∈ qs, (Tryd.prog.info? 52).map (·.size) = some (rqC q).length) := Lib.hid fun q hq => rq_info hQ hq
  have HSame : Hid (∀ W A1 A2 c1 c2 (x y : List It), Its W A1 x → Its W A2 y → x.length ≤ 1000 → y.length ≤ 1000 → Calls Tryd.prog 19 #[.slice A1 x.length c1, .slice A2 y.length c2] W fun E w' => E = .returned (.bool (decide (x = y))) ∧ Below W.heap.size W w') := Lib.hid fun W A1 A2 c1 c2 x y h1 h2 h3 h4 => same_any A1 A2 c1 c2 x y W h1 h2 (by omega) (by omega)
  obtain ⟨n, hnn⟩ : ∃ n, n = qs.length := ⟨_, rfl⟩
  have HL := Lib.hid hnn
  rw [← hnn] at HF hn ⊢
  obtain ⟨n0, hn0⟩ : ∃ n0, n0 = T0.length := ⟨_, rfl⟩
  have HN0 := Lib.hid hn0
  have HFl := Lib.hid hF
  have HF0 := Lib.hid hF0
  have HRo : Hid (∀ W, Below w.heap.size w W → Calls Tryd.prog 11 #[.slice FA n0 fc] W fun E w' => E = .returned (.tuple #[.agg (tbC (if okT T0 = true then T0 else zT)).toArray, .int .i64 (if okT T0 = true then 0 else 1)]) ∧ Below W.heap.size W w') := Lib.hid fun W hb => by rw [hn0]; exact rtof_any (hF.below hb) hFn
  have HTo : Hid (∀ W A1 c1, Lss W A1 T0 → Calls Tryd.prog 10 #[.slice A1 n0 c1] W fun E w' => TofP W T0 E w') := Lib.hid fun W A1 c1 h => by rw [hn0]; exact tof_any h hFn
  have hz36 := zero_tb
  have HZt : Hid ((tbC zT).length = 24) := Lib.hid rfl
  generalize tbC zT = ZT at hz36 HZt
  rw [← hn0]
  clear hv hQ hnn hF hF0 hn0 hFn
  go_enter Tryd.func3, Tryd.ntmps3
  go_wp2_with (go_at_call 8; refine HF.out.mono ?_)
  rintro E w1 ⟨⟨z, rfl, hz150⟩, b1⟩
  have B1 := Lib.hid (HB0.out.trans (b1.mono HB0.out.size))
  clear HB0 b1 HF
  cases z with
  | false =>
    clear HRo HTo hz36
    go_wp2_with (go_at_call 9; refine (HW.out _ B1.out).mono ?_; rintro E w2 ⟨rfl, b2⟩)
    go_ret
    exact ⟨rfl, B1.out.trans (b2.mono B1.out.size)⟩
  | true =>
    clear hz150
    by_cases hlim : n0 ≤ 20
    · have hl1 : ¬ ((n0 : Int) > 20) := by omega
      have hl2 : ¬ (20 < (n0 : Int)) := by omega
      cases hok : okT T0 with
      | true =>
        have HRof : Hid (∀ W, Below w.heap.size w W → Calls Tryd.prog 11 #[.slice FA n0 fc] W fun E w' => E = .returned (.tuple #[.agg (tbC T0).toArray, .int .i64 0]) ∧ Below W.heap.size W w') := Lib.hid fun W hb => (HRo.out W hb).mono fun E w' h => by rw [hok] at h; exact h
        have HTof : Hid (∀ W A1 c1, Lss W A1 T0 → Calls Tryd.prog 10 #[.slice A1 n0 c1] W fun E w' => ∃ t, E = .returned (.tuple #[.pointer (some ⟨t, 0, none⟩), .int .i64 0]) ∧ Tbl w' t T0 ∧ W.heap.size ≤ t ∧ Below W.heap.size W w') := Lib.hid fun W A1 c1 h => (HTo.out W A1 c1 h).mono fun E w' ⟨h1, h2⟩ => by rw [if_pos (okT_iff.1 hok)] at h2; obtain ⟨t, e1, e2, e3⟩ := h2; exact ⟨t, e1, e2, e3, h1⟩
        have HT8 : Hid (T0.length = 8) := Lib.hid (okT_iff.1 hok).1
        clear hok HRo HTo
        have HTi : Hid ((Tryd.prog.info? 36).map (·.size) = some (tbC T0).length) := Lib.hid (by rw [tbC_length, HT8.out]; exact Tryd.is36)
        have HTl : Hid (ZT.length = (tbC T0).length) := Lib.hid (by rw [HZt.out, tbC_length, HT8.out])
        have HT1 := Lib.hid (tbC_one T0)
        have HOm : Hid ((w1.alloc (.cells #[] 34)).ownsRow w1.heap.size 34 3 (.slice (some ⟨w1.heap.size, 0, none⟩) 0 0) 0 []) := Lib.hid (World.ownsRow_made w1 #[] 0 (Nat.le_refl _) (Nat.zero_le _) (by simp))
        have HBa : Hid (Below w1.heap.size w1 (w1.alloc (.cells #[] 34))) := Lib.hid ((Below.refl _ _).alloc (Nat.le_refl _) _)
        have HFa : Hid (Lss (w1.alloc (.cells #[] 34)) FA T0) := Lib.hid ((HFl.out.below B1.out).below HBa.out)
        have hl1000 : n0 ≤ 1000 := by omega
        go_wp2_with (first
          | (at_builtin; refine app_lss rfl _ _ rfl rfl HOm.out HBa.out rfl HN0.out HFa.out HF0.out hl1000 ?_; intro A2 c2 w2 hL2 hb2; have HL2 := Lib.hid hL2; have B2 := Lib.hid (B1.out.trans (hb2.mono B1.out.size)); clear hL2 hb2 B1 HOm HBa HFa)
          | (go_at_call 10; refine (HTof.out _ _ _ HL2.out).mono ?_; rintro E w3 ⟨t, rfl, ht3, hg3, hb3⟩; have HT3 := Lib.hid (And.intro ht3 (Nat.le_trans B2.out.size hg3)); have B3 := Lib.hid (B2.out.trans (hb3.mono B2.out.size)); clear ht3 hg3 hb3 HL2 HTof B2)
          | (go_at_call 11; refine (HRof.out _ B3.out).mono ?_; rintro E w4 ⟨rfl, hb4⟩; have HT4 := Lib.hid (And.intro (HT3.out.1.below hb4) HT3.out.2); have B4 := Lib.hid (B3.out.trans (hb4.mono B3.out.size)); clear hb4 HT3 B3 HRof)
          | (refine wpList_store_all rfl 36 (.tmp 9) (.tmp 38) rfl w4.heap.size ZT (tbC T0) 36 (heap_alloc_new w4 (.cells ZT.toArray 36)) HTl.out rfl rfl HTi.out HT1.out ?_; intro w5 hw5; have HR5 := Lib.hid (show RTb w5 w4.heap.size T0 from ⟨hw5.out.1, HT8.out⟩); have B5 : Hid (Below w.heap.size w w5) := Lib.hid ((B4.out.alloc B4.out.size _).grown hw5.out.2 (B4.out.alloc B4.out.size _).size (fun k hk => by injection hk with hk; rw [← hk]; exact B4.out.size)); have HG4 : Hid (w.heap.size ≤ w4.heap.size) := Lib.hid B4.out.size; have HT5 : Hid (Tbl w5 t T0 ∧ w.heap.size ≤ t ∧ t ≠ w4.heap.size) := Lib.hid ⟨(HT4.out.1.below ((Below.refl _ _).alloc (Nat.le_refl _) _)).kept (hw5.out.2.block t (by have := HT4.out.1.lt; simp; omega) (fun e => by injection e with e; have := HT4.out.1.lt; omega)), HT4.out.2, by have := HT4.out.1.lt; omega⟩; clear HT4; clear B4 hw5)
          | (go_at_call 13; refine (new_any (HV.out.below B5.out)).mono ?_; rintro E w7 ⟨rfl, hs7, hb7⟩; have S8 := Lib.hid (pd_of HV.out B5.out HT5.out.1 HR5.out HT5.out.2.2 HT5.out.2.1 HG4.out hs7 hb7); clear hs7 hb7 HT5 HR5 B5))
        generalize w5.heap.size = g at *
        generalize w7.heap.size = g2 at *
        generalize w4.heap.size = t2 at *
        go_loopw [13] (fun v13 wr => ∃ (k : Nat) (T : List Lst) (r : Option Nat) (c : Nat) (xs : List It) (r2 : Option Nat) (c2 : Nat), k ≤ n ∧ v13 = .int .i64 (k : Int) ∧ Hid (Pd w t g t2 g2 [] wr T r c xs T r2 c2 xs)) (fun v13 _ => n - (intOf v13).toNat)
        case atStart => exact ⟨0, _, none, 0, [], none, 0, by omega, rfl, S8⟩
        case round =>
          clear S8
          obtain ⟨k, T, r, c, xs, r2, c2, hk, rfl, D⟩ := hrel
          by_cases hkk : k < n
          · obtain ⟨q, hq⟩ : ∃ q, qs[k]? = some q := ⟨_, List.getElem?_eq_getElem (by rw [← HL.out]; exact hkk)⟩
            obtain ⟨b', off, rfl, hr⟩ := HReq.out k q hq
            have HRg := Lib.hid hr
            have HI := Lib.hid (HInfo.out q (List.mem_of_getElem? hq))
            have hdec : decide ((k : Int) < (n : Int)) = true := decide_eq_true (by omega)
            have hj0 : (0 : Int) ≤ (k : Int) := by omega
            have hjn : (k : Int) < (n : Int) := by omega
            have htn : ((k : Int)).toNat = k := by omega
            have hw1 : IntKind.i64.wrap ((k : Int) + 1) = (k : Int) + 1 := by rw [IntKind.wrap_i64]; omega
            have HRi := Lib.hid D.out.s1.sys.rise
            have HLe := Lib.hid D.out.s1.sys.len
            have HSm := Lib.hid D.out.s1.sys.small
            obtain ⟨er, vl, z, hres⟩ := tR_rep T xs q
            obtain ⟨T', hT'⟩ : ∃ T', T' = (tR T xs q).2.1 := ⟨_, rfl⟩
            obtain ⟨ys, hys⟩ : ∃ ys, ys = (tR T xs q).2.2 := ⟨_, rfl⟩
            have HRes : Hid (tR T xs q = (((er, vl), z), T', ys)) := Lib.hid (by rw [← hres, hT', hys])
            have HD1 : Hid (∀ W r c r2 c2, Pd w t g t2 g2 [] W T r c xs T r2 c2 xs → Calls Tryd.prog 14 #[.pointer (some ⟨t, 0, none⟩), .pointer (some ⟨g, 0, none⟩), .agg (rqC q).toArray] W fun E W' => E = .returned (.tuple #[.agg #[.int .i64 er, .string vl], .bool z]) ∧ ∃ r' c', Pd w t g t2 g2 [] W' T' r' c' ys T r2 c2 xs) := Lib.hid fun W r c r2 c2 h => (h.do1 q).mono fun E W' hE => by rw [HRes.out] at hE; exact hE
            have HD2 : Hid (∀ W rb r c r2 c2, Pd w t g t2 g2 [(rb, #[.int .i64 er, .string vl], 32)] W T' r c ys T r2 c2 xs → Calls Tryd.prog 15 #[.pointer (some ⟨t2, 0, none⟩), .pointer (some ⟨g2, 0, none⟩), .agg (rqC q).toArray] W fun E W' => E = .returned (.tuple #[.agg #[.int .i64 er, .string vl], .bool z]) ∧ ∃ r' c', Pd w t g t2 g2 [(rb, #[.int .i64 er, .string vl], 32)] W' T' r c ys T' r' c' ys) := Lib.hid fun W rb r c r2 c2 h => (h.do2 HRi.out HLe.out HSm.out q).mono fun E W' hE => by rw [HRes.out] at hE; exact hE
            clear hr hres hT' hys hq HRes
            have g32 := Tryd.guard32
            have e32 : ∀ w, (Op.equalIn 10000 32 (.agg #[.int .i64 er, .string vl]) (.agg #[.int .i64 er, .string vl])).run Tryd.prog w = .ok true w := fun w => eq_lrp_of (d := 9998) (er, vl) (er, vl) (by simp) w
            go_wp2_with (first | ((with_reducible refine wpList_load_midG ?_ 52 (.tmp 67) ?_ b' (off + k * 40) ?_ (rqC q) _ ?_ Tryd.underlying52 ?_ ?_ ?_); rotate_left; (· rfl); (· rfl); (· exact HRg.out _ D.out.s1.bel); (· rfl); (· exact HI.out); rotate_left; (· rfl)) | (go_at_call 14; refine (HD1.out _ _ _ _ _ D.out).mono ?_))
            rintro E w9 ⟨rfl, r9, c9, h9⟩
            have D9 := Lib.hid (h9.box #[.int .i64 er, .string vl] 32)
            clear D h9 HD1
            go_wp2_with (first | ((with_reducible refine wpList_load_midG ?_ 52 (.tmp 76) ?_ b' (off + k * 40) ?_ (rqC q) _ ?_ Tryd.underlying52 ?_ ?_ ?_); rotate_left; (· rfl); (· rfl); (· exact HRg.out _ D9.out.s1.bel); (· rfl); (· exact HI.out); rotate_left; (· rfl)) | (go_at_call 15; refine (HD2.out _ _ _ _ _ _ D9.out).mono ?_))
            rintro E w10 ⟨rfl, r10, c10, h10⟩
            have D10 := Lib.hid (h10.box #[.int .i64 er, .string vl] 32)
            clear D9 h10 HD2 HI
            have HT8 := Lib.hid D10.out.s1.tbl.len
            have HI36 : Hid ((Tryd.prog.info? 36).map (·.size) = some (tbC T').length) := Lib.hid (by rw [tbC_length, HT8.out]; exact Tryd.is36)
            go_wp2_with fail
            refine wp_region_any (by kernel_rfl) ?_
            change wpAny _ _ _ _ _ _ _ (World.drewN _ 1)
            refine held_gen (G := fun W => wpAny _ _ _ _ _ _ _ W) (fun W => Pd w t g t2 g2 [(w10.heap.size, #[.int .i64 er, .string vl], 32), (w9.heap.size, #[.int .i64 er, .string vl], 32)] W T' r9 c9 ys T' r10 c10 ys) (D10.out.drewN 1) (fun w11 hW9 => ?_)
            have D11 := Lib.hid hW9
            clear hW9 D10
            refine wpAny_of_held (S := fun W => W.heap[w9.heap.size]? = some (.cells ([.int .i64 er, .string vl] : List Value).toArray 32 (0, 0)) ∧ W.heap[w10.heap.size]? = some (.cells ([.int .i64 er, .string vl] : List Value).toArray 32 (0, 0)) ∧ W.heap[t2]? = some (.cells (tbC T').toArray 36 (0, 0))) _ _ _ _ ?_
            refine wpAnyH_take (i := 0) (oi := { dst := some 81, op := Op.load 32 (Operand.tmp 14), type := _, pos := _, after := _, guard := none }) (v := .agg #[.int .i64 er, .string vl]) rfl (by kernel_rfl) (by kernel_rfl) (by kernel_rfl) (fun _ _ _ h => h) (Or.inl ⟨by kernel_rfl, fun W hSW => exec_load_mid 32 (.tmp 14) rfl w9.heap.size 0 rfl [.int .i64 er, .string vl] _ (range_all hSW.1) Tryd.underlying32 rfl Tryd.is32⟩) (⟨(D11.out.s1.keep _ (List.mem_cons_of_mem _ (List.mem_cons_self ..))).1, (D11.out.s1.keep _ (List.mem_cons_self ..)).1, D11.out.rt.top⟩) ?_
            try simp only [Act.put, List.setIfInBounds_toArray, List.set_cons_zero, List.set_cons_succ]
            refine wpAnyH_take (i := 1) (oi := { dst := some 82, op := Op.load 32 (Operand.tmp 16), type := _, pos := _, after := _, guard := none }) (v := .agg #[.int .i64 er, .string vl]) rfl (by kernel_rfl) (by kernel_rfl) (by kernel_rfl) (fun _ _ _ h => h) (Or.inl ⟨by kernel_rfl, fun W hSW => exec_load_mid 32 (.tmp 16) rfl w10.heap.size 0 rfl [.int .i64 er, .string vl] _ (range_all hSW.2.1) Tryd.underlying32 rfl Tryd.is32⟩) (⟨(D11.out.s1.keep _ (List.mem_cons_of_mem _ (List.mem_cons_self ..))).1, (D11.out.s1.keep _ (List.mem_cons_self ..)).1, D11.out.rt.top⟩) ?_
            try simp only [Act.put, List.setIfInBounds_toArray, List.set_cons_zero, List.set_cons_succ]
            refine wpAnyH_take (i := 2) (oi := { dst := some 83, op := Op.binOp BinOp.neq 32 (Operand.tmp 81) (Operand.tmp 82) 32, type := _, pos := _, after := _, guard := none }) (v := .bool false) rfl (by kernel_rfl) (by kernel_rfl) (by kernel_rfl) (fun _ _ _ h => h) (Or.inl ⟨by kernel_rfl, fun W hSW => by go_simp⟩) (⟨(D11.out.s1.keep _ (List.mem_cons_of_mem _ (List.mem_cons_self ..))).1, (D11.out.s1.keep _ (List.mem_cons_self ..)).1, D11.out.rt.top⟩) ?_
            try simp only [Act.put, List.setIfInBounds_toArray, List.set_cons_zero, List.set_cons_succ]
            refine wpAnyH_take (i := 3) (oi := { dst := some 84, op := Op.move (Operand.tmp 83), type := _, pos := _, after := _, guard := none }) (v := .bool false) rfl (by kernel_rfl) (by kernel_rfl) (by kernel_rfl) (fun _ _ _ h => h) (Or.inl ⟨by kernel_rfl, fun W hSW => by go_simp⟩) (⟨(D11.out.s1.keep _ (List.mem_cons_of_mem _ (List.mem_cons_self ..))).1, (D11.out.s1.keep _ (List.mem_cons_self ..)).1, D11.out.rt.top⟩) ?_
            try simp only [Act.put, List.setIfInBounds_toArray, List.set_cons_zero, List.set_cons_succ]
            refine wpAnyH_take (i := 4) (oi := { dst := some 85, op := Op.move (Operand.tmp 15), type := _, pos := _, after := _, guard := some (3, false) }) (v := .bool z) rfl (by kernel_rfl) (by kernel_rfl) (by kernel_rfl) (fun _ _ _ h => h) (Or.inl ⟨by kernel_rfl, fun W hSW => by go_simp⟩) (⟨(D11.out.s1.keep _ (List.mem_cons_of_mem _ (List.mem_cons_self ..))).1, (D11.out.s1.keep _ (List.mem_cons_self ..)).1, D11.out.rt.top⟩) ?_
            try simp only [Act.put, List.setIfInBounds_toArray, List.set_cons_zero, List.set_cons_succ]
            refine wpAnyH_take (i := 5) (oi := { dst := some 86, op := Op.move (Operand.tmp 17), type := _, pos := _, after := _, guard := some (3, false) }) (v := .bool z) rfl (by kernel_rfl) (by kernel_rfl) (by kernel_rfl) (fun _ _ _ h => h) (Or.inl ⟨by kernel_rfl, fun W hSW => by go_simp⟩) (⟨(D11.out.s1.keep _ (List.mem_cons_of_mem _ (List.mem_cons_self ..))).1, (D11.out.s1.keep _ (List.mem_cons_self ..)).1, D11.out.rt.top⟩) ?_
            try simp only [Act.put, List.setIfInBounds_toArray, List.set_cons_zero, List.set_cons_succ]
            refine wpAnyH_take (i := 6) (oi := { dst := some 87, op := Op.binOp BinOp.neq 4 (Operand.tmp 85) (Operand.tmp 86) 4, type := _, pos := _, after := _, guard := some (3, false) }) (v := .bool false) rfl (by kernel_rfl) (by kernel_rfl) (by kernel_rfl) (fun _ _ _ h => h) (Or.inl ⟨by kernel_rfl, fun W hSW => by cases z <;> go_simp⟩) (⟨(D11.out.s1.keep _ (List.mem_cons_of_mem _ (List.mem_cons_self ..))).1, (D11.out.s1.keep _ (List.mem_cons_self ..)).1, D11.out.rt.top⟩) ?_
            try simp only [Act.put, List.setIfInBounds_toArray, List.set_cons_zero, List.set_cons_succ]
            refine wpAnyH_take (i := 7) (oi := { dst := some 88, op := Op.pick (Operand.tmp 84) (Operand.const (Value.bool true)) (Operand.tmp 87), type := _, pos := _, after := _, guard := none }) (v := .bool false) rfl (by kernel_rfl) (by kernel_rfl) (by kernel_rfl) (fun _ _ _ h => h) (Or.inl ⟨by kernel_rfl, fun W hSW => by go_simp⟩) (⟨(D11.out.s1.keep _ (List.mem_cons_of_mem _ (List.mem_cons_self ..))).1, (D11.out.s1.keep _ (List.mem_cons_self ..)).1, D11.out.rt.top⟩) ?_
            try simp only [Act.put, List.setIfInBounds_toArray, List.set_cons_zero, List.set_cons_succ]
            refine wpAnyH_take (i := 8) (oi := { dst := some 89, op := Op.move (Operand.tmp 88), type := _, pos := _, after := _, guard := none }) (v := .bool false) rfl (by kernel_rfl) (by kernel_rfl) (by kernel_rfl) (fun _ _ _ h => h) (Or.inl ⟨by kernel_rfl, fun W hSW => by go_simp⟩) (⟨(D11.out.s1.keep _ (List.mem_cons_of_mem _ (List.mem_cons_self ..))).1, (D11.out.s1.keep _ (List.mem_cons_self ..)).1, D11.out.rt.top⟩) ?_
            try simp only [Act.put, List.setIfInBounds_toArray, List.set_cons_zero, List.set_cons_succ]
            refine wpAnyH_take (i := 9) (oi := { dst := some 90, op := Op.move (Operand.tmp 7), type := _, pos := _, after := _, guard := some (8, false) }) (v := .pointer (some ⟨t, 0, none⟩)) rfl (by kernel_rfl) (by kernel_rfl) (by kernel_rfl) (fun _ _ _ h => h) (Or.inl ⟨by kernel_rfl, fun W hSW => by go_simp⟩) (⟨(D11.out.s1.keep _ (List.mem_cons_of_mem _ (List.mem_cons_self ..))).1, (D11.out.s1.keep _ (List.mem_cons_self ..)).1, D11.out.rt.top⟩) ?_
            try simp only [Act.put, List.setIfInBounds_toArray, List.set_cons_zero, List.set_cons_succ]
            refine wpAnyH_take (i := 11) (oi := { dst := some 92, op := Op.load 36 (Operand.tmp 9), type := _, pos := _, after := _, guard := some (8, false) }) (v := .agg (tbC T').toArray) rfl (by kernel_rfl) (by kernel_rfl) (by kernel_rfl) (fun _ _ _ h => h) (Or.inl ⟨by kernel_rfl, fun W hSW => exec_load_mid 36 (.tmp 9) rfl t2 0 rfl (tbC T') _ (range_all hSW.2.2) Tryd.underlying36 rfl HI36.out⟩) (⟨(D11.out.s1.keep _ (List.mem_cons_of_mem _ (List.mem_cons_self ..))).1, (D11.out.s1.keep _ (List.mem_cons_self ..)).1, D11.out.rt.top⟩) ?_
            try simp only [Act.put, List.setIfInBounds_toArray, List.set_cons_zero, List.set_cons_succ]
            refine wpAnyH_ready (rs := [10]) (by kernel_rfl) (by simp) ?_
            refine AllReadyH.cons (o := { dst := some 91, op := Op.call { callee := Callee.value (Operand.func 17), args := #[Operand.tmp 90], argTypes := #[26] }, type := _, pos := _, after := _, guard := some (8, false) }) rfl (fun K' hK' => ?_) AllReadyH.nil
            go_simp
            go_at_call 17
            refine (tlist_any D11.out.s1.tbl).mono ?_
            rintro E w12 ⟨b12, c12, rfl, hL12, _, bb12⟩
            have D12 := Lib.hid (D11.out.below bb12)
            have HLs := Lib.hid hL12
            clear bb12 hL12 D11
            refine hK'.out _ _ (⟨(D12.out.s1.keep _ (List.mem_cons_of_mem _ (List.mem_cons_self ..))).1, (D12.out.s1.keep _ (List.mem_cons_self ..)).1, D12.out.rt.top⟩) (fun _ => ?_)
            clear hK' K'
            try simp only [Act.put, List.setIfInBounds_toArray, List.set_cons_zero, List.set_cons_succ]
            refine wpAnyH_ready (rs := [12]) (by kernel_rfl) (by simp) ?_
            refine AllReadyH.cons (o := { dst := some 93, op := Op.call { callee := Callee.value (Operand.func 16), args := #[Operand.tmp 91, Operand.tmp 92], argTypes := #[22, 36] }, type := _, pos := _, after := _, guard := some (8, false) }) rfl (fun K' hK' => ?_) AllReadyH.nil
            go_simp
            go_at_call 16
            refine (tsame_any HLs.out HT8.out).mono ?_
            rintro E w13 ⟨rfl, bb13⟩
            have D13 := Lib.hid (D12.out.below bb13)
            clear bb13 HLs D12
            refine hK'.out _ _ (⟨(D13.out.s1.keep _ (List.mem_cons_of_mem _ (List.mem_cons_self ..))).1, (D13.out.s1.keep _ (List.mem_cons_self ..)).1, D13.out.rt.top⟩) (fun _ => ?_)
            clear hK' K'
            try simp only [Act.put, List.setIfInBounds_toArray, List.set_cons_zero, List.set_cons_succ]
            refine wpAnyH_take (i := 13) (oi := { dst := some 94, op := Op.unOp UnOp.not 4 (Operand.tmp 93), type := _, pos := _, after := _, guard := some (8, false) }) (v := .bool false) rfl (by kernel_rfl) (by kernel_rfl) (by kernel_rfl) (fun _ _ _ h => h) (Or.inl ⟨by kernel_rfl, fun W hSW => by go_simp⟩) (⟨(D13.out.s1.keep _ (List.mem_cons_of_mem _ (List.mem_cons_self ..))).1, (D13.out.s1.keep _ (List.mem_cons_self ..)).1, D13.out.rt.top⟩) ?_
            try simp only [Act.put, List.setIfInBounds_toArray, List.set_cons_zero, List.set_cons_succ]
            refine wpAnyH_take (i := 14) (oi := { dst := some 95, op := Op.pick (Operand.tmp 89) (Operand.const (Value.bool true)) (Operand.tmp 94), type := _, pos := _, after := _, guard := none }) (v := .bool false) rfl (by kernel_rfl) (by kernel_rfl) (by kernel_rfl) (fun _ _ _ h => h) (Or.inl ⟨by kernel_rfl, fun W hSW => by go_simp⟩) (⟨(D13.out.s1.keep _ (List.mem_cons_of_mem _ (List.mem_cons_self ..))).1, (D13.out.s1.keep _ (List.mem_cons_self ..)).1, D13.out.rt.top⟩) ?_
            try simp only [Act.put, List.setIfInBounds_toArray, List.set_cons_zero, List.set_cons_succ]
            refine wpAnyH_done (by kernel_rfl) ?_ _
            go_wp2_with fail
            go_roundw
            case measure => simp [intOf] <;> omega
            case rel => exact ⟨k + 1, _, r9, c9, _, r10, c10, by omega, by go_num, Lib.hid D13.out.pop.pop⟩
          · obtain rfl : k = n := by omega
            have hkn : ¬ ((k : Int) < (k : Int)) := by omega
            have HT8 := Lib.hid D.out.s1.tbl.len
            have HLe := Lib.hid D.out.s1.sys.len
            have g34 := Tryd.guard34
            have e34 : ∀ w, (Op.equalIn 10000 34 (.agg (lsC (tLast T cl)).toArray) (.agg (lsC (tLast T cl)).toArray)).run Tryd.prog w = .ok true w := fun w => eq_lst_of (d := 9997) _ _ (by simp) w
            by_cases hc : 1 ≤ cl ∧ cl ≤ 8
            · obtain ⟨i, rfl⟩ : ∃ i : Nat, cl = (i : Int) + 1 := ⟨(cl - 1).toNat, by omega⟩
              have hi8 : i < 8 := by omega
              obtain ⟨p, hp, hlast⟩ := last_at HT8.out hi8
              have HLL : Hid (tLast T ((i : Int) + 1) = p) := Lib.hid (by rw [tLast, if_pos (isCl_iff.2 (by omega)), hlast])
              have hb : Below wr.heap.size wr (wr.alloc (.cells #[.int .u64 0, .int .i64 0, .string ⟨#[]⟩] 34)) := (Below.refl _ _).alloc (Nat.le_refl _) _
              have m0 : (wr.alloc (.cells #[.int .u64 0, .int .i64 0, .string ⟨#[]⟩] 34)).cell? ⟨t2, i * 3, none⟩ = some (.int .u64 (p.1 : Int)) := (D.out.rt.below hb).cell hp 0 _ rfl
              have m1 : (wr.alloc (.cells #[.int .u64 0, .int .i64 0, .string ⟨#[]⟩] 34)).cell? ⟨t2, i * 3 + 1, none⟩ = some (.int .i64 p.2.1) := (D.out.rt.below hb).cell hp 1 _ rfl
              have m2 : (wr.alloc (.cells #[.int .u64 0, .int .i64 0, .string ⟨#[]⟩] 34)).cell? ⟨t2, i * 3 + 2, none⟩ = some (.string p.2.2) := (D.out.rt.below hb).cell hp 2 _ rfl
              have hwj : IntKind.i64.wrap ((i : Int) + 1 - 1) = (i : Int) := by rw [IntKind.wrap_i64]; omega
              have hj0 : (0 : Int) ≤ (i : Int) := by omega
              have hj8 : (i : Int) < 8 := by omega
              have htn : ((i : Int)).toNat = i := by omega
              have hc1 : (1 : Int) ≤ (i : Int) + 1 := by omega
              have hc2 : (i : Int) + 1 ≤ 8 := by omega
              have D14 : Hid (Pd w t g t2 g2 [(wr.heap.size, (lsC (tLast T ((i : Int) + 1))).toArray, 34)] (wr.alloc (.cells #[.int .u64 (p.1 : Int), .int .i64 p.2.1, .string p.2.2] 34)) T r c xs T r2 c2 xs) := Lib.hid (by rw [HLL.out]; exact D.out.box #[.int .u64 (p.1 : Int), .int .i64 p.2.1, .string p.2.2] 34)
              clear D hp hlast hb hc
              go_wp2_with fail
              refine wp_region_any (by kernel_rfl) ?_
              change wpAny _ _ _ _ _ _ _ (World.drewN _ 1)
              refine held_gen (G := fun W => wpAny _ _ _ _ _ _ _ W) (fun W => Pd w t g t2 g2 [(wr.heap.size, (lsC (tLast T ((i : Int) + 1))).toArray, 34)] W T r c xs T r2 c2 xs) (D14.out.drewN 1) (fun w15 hW9 => ?_)
              have D15 := Lib.hid hW9
              clear hW9 D14
              refine wpAny_of_held (S := fun W => W.heap[wr.heap.size]? = some (.cells (lsC (tLast T ((i : Int) + 1))).toArray 34 (0, 0)) ∧ W.cell? ⟨g2, 0, none⟩ = some (.slice (slA r2) xs.length c2)) _ _ _ _ ?_
              refine wpAnyH_take (i := 0) (oi := { dst := some 107, op := Op.move (Operand.tmp 7), type := _, pos := _, after := _, guard := none }) (v := .pointer (some ⟨t, 0, none⟩)) rfl (by kernel_rfl) (by kernel_rfl) (by kernel_rfl) (fun _ _ _ h => h) (Or.inl ⟨by kernel_rfl, fun W hSW => by go_simp⟩) (⟨(D15.out.s1.keep _ (List.mem_cons_self ..)).1, D15.out.rl.cell⟩) ?_
              try simp only [Act.put, List.setIfInBounds_toArray, List.set_cons_zero, List.set_cons_succ]
              refine wpAnyH_take (i := 1) (oi := { dst := some 108, op := Op.move (Operand.tmp 2), type := _, pos := _, after := _, guard := none }) (v := .int .i64 ((i : Int) + 1)) rfl (by kernel_rfl) (by kernel_rfl) (by kernel_rfl) (fun _ _ _ h => h) (Or.inl ⟨by kernel_rfl, fun W hSW => by go_simp⟩) (⟨(D15.out.s1.keep _ (List.mem_cons_self ..)).1, D15.out.rl.cell⟩) ?_
              try simp only [Act.put, List.setIfInBounds_toArray, List.set_cons_zero, List.set_cons_succ]
              refine wpAnyH_take (i := 3) (oi := { dst := some 110, op := Op.load 34 (Operand.tmp 18), type := _, pos := _, after := _, guard := none }) (v := .agg (lsC (tLast T ((i : Int) + 1))).toArray) rfl (by kernel_rfl) (by kernel_rfl) (by kernel_rfl) (fun _ _ _ h => h) (Or.inl ⟨by kernel_rfl, fun W hSW => exec_load_mid 34 (.tmp 18) rfl wr.heap.size 0 rfl (lsC (tLast T ((i : Int) + 1))) _ (range_all hSW.1) Tryd.underlying34 rfl Tryd.is34⟩) (⟨(D15.out.s1.keep _ (List.mem_cons_self ..)).1, D15.out.rl.cell⟩) ?_
              try simp only [Act.put, List.setIfInBounds_toArray, List.set_cons_zero, List.set_cons_succ]
              refine wpAnyH_ready (rs := [2]) (by kernel_rfl) (by simp) ?_
              refine AllReadyH.cons (o := { dst := some 109, op := Op.call { callee := Callee.value (Operand.func 18), args := #[Operand.tmp 107, Operand.tmp 108], argTypes := #[26, 3] }, type := _, pos := _, after := _, guard := none }) rfl (fun K' hK' => ?_) AllReadyH.nil
              go_simp
              go_at_call 18
              refine (tlast_any D15.out.s1.tbl ((i : Int) + 1)).mono ?_
              rintro E w16 ⟨rfl, bb16⟩
              have D16 := Lib.hid (D15.out.below bb16)
              clear bb16 D15
              refine hK'.out _ _ (⟨(D16.out.s1.keep _ (List.mem_cons_self ..)).1, D16.out.rl.cell⟩) (fun _ => ?_)
              clear hK' K'
              try simp only [Act.put, List.setIfInBounds_toArray, List.set_cons_zero, List.set_cons_succ]
              refine wpAnyH_take (i := 4) (oi := { dst := some 111, op := Op.binOp BinOp.eql 34 (Operand.tmp 109) (Operand.tmp 110) 34, type := _, pos := _, after := _, guard := none }) (v := .bool true) rfl (by kernel_rfl) (by kernel_rfl) (by kernel_rfl) (fun _ _ _ h => h) (Or.inl ⟨by kernel_rfl, fun W hSW => by go_simp⟩) (⟨(D16.out.s1.keep _ (List.mem_cons_self ..)).1, D16.out.rl.cell⟩) ?_
              try simp only [Act.put, List.setIfInBounds_toArray, List.set_cons_zero, List.set_cons_succ]
              refine wpAnyH_take (i := 5) (oi := { dst := some 112, op := Op.move (Operand.tmp 111), type := _, pos := _, after := _, guard := none }) (v := .bool true) rfl (by kernel_rfl) (by kernel_rfl) (by kernel_rfl) (fun _ _ _ h => h) (Or.inl ⟨by kernel_rfl, fun W hSW => by go_simp⟩) (⟨(D16.out.s1.keep _ (List.mem_cons_self ..)).1, D16.out.rl.cell⟩) ?_
              try simp only [Act.put, List.setIfInBounds_toArray, List.set_cons_zero, List.set_cons_succ]
              refine wpAnyH_take (i := 6) (oi := { dst := some 113, op := Op.move (Operand.tmp 11), type := _, pos := _, after := _, guard := some (5, true) }) (v := .pointer (some ⟨g, 0, none⟩)) rfl (by kernel_rfl) (by kernel_rfl) (by kernel_rfl) (fun _ _ _ h => h) (Or.inl ⟨by kernel_rfl, fun W hSW => by go_simp⟩) (⟨(D16.out.s1.keep _ (List.mem_cons_self ..)).1, D16.out.rl.cell⟩) ?_
              try simp only [Act.put, List.setIfInBounds_toArray, List.set_cons_zero, List.set_cons_succ]
              refine wpAnyH_take (i := 8) (oi := { dst := some 115, op := Op.move (Operand.tmp 12), type := _, pos := _, after := _, guard := some (5, true) }) (v := .pointer (some ⟨g2, 0, none⟩)) rfl (by kernel_rfl) (by kernel_rfl) (by kernel_rfl) (fun _ _ _ h => h) (Or.inl ⟨by kernel_rfl, fun W hSW => by go_simp⟩) (⟨(D16.out.s1.keep _ (List.mem_cons_self ..)).1, D16.out.rl.cell⟩) ?_
              try simp only [Act.put, List.setIfInBounds_toArray, List.set_cons_zero, List.set_cons_succ]
              refine wpAnyH_take (i := 9) (oi := { dst := some 116, op := Op.nilCheck (Operand.tmp 115), type := _, pos := _, after := _, guard := some (5, true) }) (v := .pointer (some ⟨g2, 0, none⟩)) rfl (by kernel_rfl) (by kernel_rfl) (by kernel_rfl) (fun _ _ _ h => h) (Or.inl ⟨by kernel_rfl, fun W hSW => by go_simp⟩) (⟨(D16.out.s1.keep _ (List.mem_cons_self ..)).1, D16.out.rl.cell⟩) ?_
              try simp only [Act.put, List.setIfInBounds_toArray, List.set_cons_zero, List.set_cons_succ]
              refine wpAnyH_take (i := 10) (oi := { dst := some 117, op := Op.fieldAddr 45 (Operand.tmp 116) 0, type := _, pos := _, after := _, guard := some (5, true) }) (v := .pointer (some ⟨g2, 0, none⟩)) rfl (by kernel_rfl) (by kernel_rfl) (by kernel_rfl) (fun _ _ _ h => h) (Or.inl ⟨by kernel_rfl, fun W hSW => by go_simp⟩) (⟨(D16.out.s1.keep _ (List.mem_cons_self ..)).1, D16.out.rl.cell⟩) ?_
              try simp only [Act.put, List.setIfInBounds_toArray, List.set_cons_zero, List.set_cons_succ]
              refine wpAnyH_take (i := 11) (oi := { dst := some 118, op := Op.load 43 (Operand.tmp 117), type := _, pos := _, after := _, guard := some (5, true) }) (v := .slice (slA r2) xs.length c2) rfl (by kernel_rfl) (by kernel_rfl) (by kernel_rfl) (fun _ _ _ h => h) (Or.inl ⟨by kernel_rfl, fun W hSW => by have hc := hSW.2; go_simp⟩) (⟨(D16.out.s1.keep _ (List.mem_cons_self ..)).1, D16.out.rl.cell⟩) ?_
              try simp only [Act.put, List.setIfInBounds_toArray, List.set_cons_zero, List.set_cons_succ]
              refine wpAnyH_ready (rs := [7]) (by kernel_rfl) (by simp) ?_
              refine AllReadyH.cons (o := { dst := some 114, op := Op.call { callee := Callee.value (Operand.func 20), args := #[Operand.tmp 113], argTypes := #[40] }, type := _, pos := _, after := _, guard := some (5, true) }) rfl (fun K' hK' => ?_) AllReadyH.nil
              go_simp
              go_at_call 20
              refine (list_any D16.out.s1.sys.led (Nat.le_trans HLe.out (by decide))).mono ?_
              rintro E w17 ⟨r17, c17, rfl, hR17, _, bb17⟩
              have D17 := Lib.hid (D16.out.below bb17)
              have HI17 := Lib.hid hR17.its
              clear bb17 hR17 D16
              refine hK'.out _ _ (⟨(D17.out.s1.keep _ (List.mem_cons_self ..)).1, D17.out.rl.cell⟩) (fun _ => ?_)
              clear hK' K'
              try simp only [Act.put, List.setIfInBounds_toArray, List.set_cons_zero, List.set_cons_succ]
              refine wpAnyH_ready (rs := [12]) (by kernel_rfl) (by simp) ?_
              refine AllReadyH.cons (o := { dst := some 119, op := Op.call { callee := Callee.value (Operand.func 19), args := #[Operand.tmp 114, Operand.tmp 118], argTypes := #[43, 43] }, type := _, pos := _, after := _, guard := some (5, true) }) rfl (fun K' hK' => ?_) AllReadyH.nil
              go_simp
              go_at_call 19
              refine (HSame.out _ _ _ _ _ xs xs HI17.out D17.out.rl.row.its (Nat.le_trans HLe.out (by decide)) (Nat.le_trans HLe.out (by decide))).mono ?_
              rintro E w18 ⟨rfl, bb18⟩
              rw [decide_eq_true rfl]
              have D18 := Lib.hid (D17.out.below bb18)
              clear bb18 HI17 D17
              refine hK'.out _ _ (⟨(D18.out.s1.keep _ (List.mem_cons_self ..)).1, D18.out.rl.cell⟩) (fun _ => ?_)
              clear hK' K'
              try simp only [Act.put, List.setIfInBounds_toArray, List.set_cons_zero, List.set_cons_succ]
              refine wpAnyH_take (i := 13) (oi := { dst := some 120, op := Op.pick (Operand.tmp 112) (Operand.tmp 119) (Operand.const (Value.bool false)), type := _, pos := _, after := _, guard := none }) (v := .bool true) rfl (by kernel_rfl) (by kernel_rfl) (by kernel_rfl) (fun _ _ _ h => h) (Or.inl ⟨by kernel_rfl, fun W hSW => by go_simp⟩) (⟨(D18.out.s1.keep _ (List.mem_cons_self ..)).1, D18.out.rl.cell⟩) ?_
              try simp only [Act.put, List.setIfInBounds_toArray, List.set_cons_zero, List.set_cons_succ]
              refine wpAnyH_take (i := 14) (oi := { dst := some 121, op := Op.move (Operand.tmp 120), type := _, pos := _, after := _, guard := none }) (v := .bool true) rfl (by kernel_rfl) (by kernel_rfl) (by kernel_rfl) (fun _ _ _ h => h) (Or.inl ⟨by kernel_rfl, fun W hSW => by go_simp⟩) (⟨(D18.out.s1.keep _ (List.mem_cons_self ..)).1, D18.out.rl.cell⟩) ?_
              try simp only [Act.put, List.setIfInBounds_toArray, List.set_cons_zero, List.set_cons_succ]
              refine wpAnyH_ready (rs := [15]) (by kernel_rfl) (by simp) ?_
              refine AllReadyH.cons (o := { dst := some 122, op := Op.call { callee := Callee.value (Operand.func 9), args := #[], argTypes := #[] }, type := _, pos := _, after := _, guard := some (14, true) }) rfl (fun K' hK' => ?_) AllReadyH.nil
              go_simp
              go_at_call 9
              refine (HW.out _ D18.out.s1.bel).mono ?_
              rintro E w19 ⟨rfl, bb19⟩
              have D19 := Lib.hid (D18.out.below bb19)
              clear bb19 D18
              refine hK'.out _ _ (⟨(D19.out.s1.keep _ (List.mem_cons_self ..)).1, D19.out.rl.cell⟩) (fun _ => ?_)
              clear hK' K'
              try simp only [Act.put, List.setIfInBounds_toArray, List.set_cons_zero, List.set_cons_succ]
              refine wpAnyH_take (i := 16) (oi := { dst := some 123, op := Op.pick (Operand.tmp 121) (Operand.tmp 122) (Operand.const (Value.bool false)), type := _, pos := _, after := _, guard := none }) (v := .bool true) rfl (by kernel_rfl) (by kernel_rfl) (by kernel_rfl) (fun _ _ _ h => h) (Or.inl ⟨by kernel_rfl, fun W hSW => by go_simp⟩) (⟨(D19.out.s1.keep _ (List.mem_cons_self ..)).1, D19.out.rl.cell⟩) ?_
              try simp only [Act.put, List.setIfInBounds_toArray, List.set_cons_zero, List.set_cons_succ]
              refine wpAnyH_take (i := 17) (oi := { dst := some 6, op := Op.assign (Operand.tmp 123), type := _, pos := _, after := _, guard := none }) (v := .bool true) rfl (by kernel_rfl) (by kernel_rfl) (by kernel_rfl) (fun _ _ _ h => h) (Or.inl ⟨by kernel_rfl, fun W hSW => by go_simp⟩) (⟨(D19.out.s1.keep _ (List.mem_cons_self ..)).1, D19.out.rl.cell⟩) ?_
              try simp only [Act.put, List.setIfInBounds_toArray, List.set_cons_zero, List.set_cons_succ]
              refine wpAnyH_done (by kernel_rfl) ?_ _
              go_wp2_with fail
              go_ret
              exact ⟨rfl, D19.out.s1.bel⟩
            · have HLL : Hid (tLast T cl = zL) := Lib.hid (by rw [tLast, if_neg (by rw [isCl_iff]; exact hc)])
              have D14 : Hid (Pd w t g t2 g2 [(wr.heap.size, (lsC (tLast T cl)).toArray, 34)] (wr.alloc (.cells #[.int .u64 0, .int .i64 0, .string ⟨#[]⟩] 34)) T r c xs T r2 c2 xs) := Lib.hid (by rw [HLL.out]; exact D.out.box #[.int .u64 0, .int .i64 0, .string ⟨#[]⟩] 34)
              clear D
              by_cases hc1 : 1 ≤ cl
              · have hc2 : ¬ (cl ≤ 8) := fun h => hc ⟨hc1, h⟩
                have hc3 : 8 < cl := by omega
                clear hc
                go_wp2_with fail
                refine wp_region_any (by kernel_rfl) ?_
                change wpAny _ _ _ _ _ _ _ (World.drewN _ 1)
                refine held_gen (G := fun W => wpAny _ _ _ _ _ _ _ W) (fun W => Pd w t g t2 g2 [(wr.heap.size, (lsC (tLast T cl)).toArray, 34)] W T r c xs T r2 c2 xs) (D14.out.drewN 1) (fun w15 hW9 => ?_)
                have D15 := Lib.hid hW9
                clear hW9 D14
                refine wpAny_of_held (S := fun W => W.heap[wr.heap.size]? = some (.cells (lsC (tLast T cl)).toArray 34 (0, 0)) ∧ W.cell? ⟨g2, 0, none⟩ = some (.slice (slA r2) xs.length c2)) _ _ _ _ ?_
                refine wpAnyH_take (i := 0) (oi := { dst := some 107, op := Op.move (Operand.tmp 7), type := _, pos := _, after := _, guard := none }) (v := .pointer (some ⟨t, 0, none⟩)) rfl (by kernel_rfl) (by kernel_rfl) (by kernel_rfl) (fun _ _ _ h => h) (Or.inl ⟨by kernel_rfl, fun W hSW => by go_simp⟩) (⟨(D15.out.s1.keep _ (List.mem_cons_self ..)).1, D15.out.rl.cell⟩) ?_
                try simp only [Act.put, List.setIfInBounds_toArray, List.set_cons_zero, List.set_cons_succ]
                refine wpAnyH_take (i := 1) (oi := { dst := some 108, op := Op.move (Operand.tmp 2), type := _, pos := _, after := _, guard := none }) (v := .int .i64 cl) rfl (by kernel_rfl) (by kernel_rfl) (by kernel_rfl) (fun _ _ _ h => h) (Or.inl ⟨by kernel_rfl, fun W hSW => by go_simp⟩) (⟨(D15.out.s1.keep _ (List.mem_cons_self ..)).1, D15.out.rl.cell⟩) ?_
                try simp only [Act.put, List.setIfInBounds_toArray, List.set_cons_zero, List.set_cons_succ]
                refine wpAnyH_take (i := 3) (oi := { dst := some 110, op := Op.load 34 (Operand.tmp 18), type := _, pos := _, after := _, guard := none }) (v := .agg (lsC (tLast T cl)).toArray) rfl (by kernel_rfl) (by kernel_rfl) (by kernel_rfl) (fun _ _ _ h => h) (Or.inl ⟨by kernel_rfl, fun W hSW => exec_load_mid 34 (.tmp 18) rfl wr.heap.size 0 rfl (lsC (tLast T cl)) _ (range_all hSW.1) Tryd.underlying34 rfl Tryd.is34⟩) (⟨(D15.out.s1.keep _ (List.mem_cons_self ..)).1, D15.out.rl.cell⟩) ?_
                try simp only [Act.put, List.setIfInBounds_toArray, List.set_cons_zero, List.set_cons_succ]
                refine wpAnyH_ready (rs := [2]) (by kernel_rfl) (by simp) ?_
                refine AllReadyH.cons (o := { dst := some 109, op := Op.call { callee := Callee.value (Operand.func 18), args := #[Operand.tmp 107, Operand.tmp 108], argTypes := #[26, 3] }, type := _, pos := _, after := _, guard := none }) rfl (fun K' hK' => ?_) AllReadyH.nil
                go_simp
                go_at_call 18
                refine (tlast_any D15.out.s1.tbl cl).mono ?_
                rintro E w16 ⟨rfl, bb16⟩
                have D16 := Lib.hid (D15.out.below bb16)
                clear bb16 D15
                refine hK'.out _ _ (⟨(D16.out.s1.keep _ (List.mem_cons_self ..)).1, D16.out.rl.cell⟩) (fun _ => ?_)
                clear hK' K'
                try simp only [Act.put, List.setIfInBounds_toArray, List.set_cons_zero, List.set_cons_succ]
                refine wpAnyH_take (i := 4) (oi := { dst := some 111, op := Op.binOp BinOp.eql 34 (Operand.tmp 109) (Operand.tmp 110) 34, type := _, pos := _, after := _, guard := none }) (v := .bool true) rfl (by kernel_rfl) (by kernel_rfl) (by kernel_rfl) (fun _ _ _ h => h) (Or.inl ⟨by kernel_rfl, fun W hSW => by go_simp⟩) (⟨(D16.out.s1.keep _ (List.mem_cons_self ..)).1, D16.out.rl.cell⟩) ?_
                try simp only [Act.put, List.setIfInBounds_toArray, List.set_cons_zero, List.set_cons_succ]
                refine wpAnyH_take (i := 5) (oi := { dst := some 112, op := Op.move (Operand.tmp 111), type := _, pos := _, after := _, guard := none }) (v := .bool true) rfl (by kernel_rfl) (by kernel_rfl) (by kernel_rfl) (fun _ _ _ h => h) (Or.inl ⟨by kernel_rfl, fun W hSW => by go_simp⟩) (⟨(D16.out.s1.keep _ (List.mem_cons_self ..)).1, D16.out.rl.cell⟩) ?_
                try simp only [Act.put, List.setIfInBounds_toArray, List.set_cons_zero, List.set_cons_succ]
                refine wpAnyH_take (i := 6) (oi := { dst := some 113, op := Op.move (Operand.tmp 11), type := _, pos := _, after := _, guard := some (5, true) }) (v := .pointer (some ⟨g, 0, none⟩)) rfl (by kernel_rfl) (by kernel_rfl) (by kernel_rfl) (fun _ _ _ h => h) (Or.inl ⟨by kernel_rfl, fun W hSW => by go_simp⟩) (⟨(D16.out.s1.keep _ (List.mem_cons_self ..)).1, D16.out.rl.cell⟩) ?_
                try simp only [Act.put, List.setIfInBounds_toArray, List.set_cons_zero, List.set_cons_succ]
                refine wpAnyH_take (i := 8) (oi := { dst := some 115, op := Op.move (Operand.tmp 12), type := _, pos := _, after := _, guard := some (5, true) }) (v := .pointer (some ⟨g2, 0, none⟩)) rfl (by kernel_rfl) (by kernel_rfl) (by kernel_rfl) (fun _ _ _ h => h) (Or.inl ⟨by kernel_rfl, fun W hSW => by go_simp⟩) (⟨(D16.out.s1.keep _ (List.mem_cons_self ..)).1, D16.out.rl.cell⟩) ?_
                try simp only [Act.put, List.setIfInBounds_toArray, List.set_cons_zero, List.set_cons_succ]
                refine wpAnyH_take (i := 9) (oi := { dst := some 116, op := Op.nilCheck (Operand.tmp 115), type := _, pos := _, after := _, guard := some (5, true) }) (v := .pointer (some ⟨g2, 0, none⟩)) rfl (by kernel_rfl) (by kernel_rfl) (by kernel_rfl) (fun _ _ _ h => h) (Or.inl ⟨by kernel_rfl, fun W hSW => by go_simp⟩) (⟨(D16.out.s1.keep _ (List.mem_cons_self ..)).1, D16.out.rl.cell⟩) ?_
                try simp only [Act.put, List.setIfInBounds_toArray, List.set_cons_zero, List.set_cons_succ]
                refine wpAnyH_take (i := 10) (oi := { dst := some 117, op := Op.fieldAddr 45 (Operand.tmp 116) 0, type := _, pos := _, after := _, guard := some (5, true) }) (v := .pointer (some ⟨g2, 0, none⟩)) rfl (by kernel_rfl) (by kernel_rfl) (by kernel_rfl) (fun _ _ _ h => h) (Or.inl ⟨by kernel_rfl, fun W hSW => by go_simp⟩) (⟨(D16.out.s1.keep _ (List.mem_cons_self ..)).1, D16.out.rl.cell⟩) ?_
                try simp only [Act.put, List.setIfInBounds_toArray, List.set_cons_zero, List.set_cons_succ]
                refine wpAnyH_take (i := 11) (oi := { dst := some 118, op := Op.load 43 (Operand.tmp 117), type := _, pos := _, after := _, guard := some (5, true) }) (v := .slice (slA r2) xs.length c2) rfl (by kernel_rfl) (by kernel_rfl) (by kernel_rfl) (fun _ _ _ h => h) (Or.inl ⟨by kernel_rfl, fun W hSW => by have hc := hSW.2; go_simp⟩) (⟨(D16.out.s1.keep _ (List.mem_cons_self ..)).1, D16.out.rl.cell⟩) ?_
                try simp only [Act.put, List.setIfInBounds_toArray, List.set_cons_zero, List.set_cons_succ]
                refine wpAnyH_ready (rs := [7]) (by kernel_rfl) (by simp) ?_
                refine AllReadyH.cons (o := { dst := some 114, op := Op.call { callee := Callee.value (Operand.func 20), args := #[Operand.tmp 113], argTypes := #[40] }, type := _, pos := _, after := _, guard := some (5, true) }) rfl (fun K' hK' => ?_) AllReadyH.nil
                go_simp
                go_at_call 20
                refine (list_any D16.out.s1.sys.led (Nat.le_trans HLe.out (by decide))).mono ?_
                rintro E w17 ⟨r17, c17, rfl, hR17, _, bb17⟩
                have D17 := Lib.hid (D16.out.below bb17)
                have HI17 := Lib.hid hR17.its
                clear bb17 hR17 D16
                refine hK'.out _ _ (⟨(D17.out.s1.keep _ (List.mem_cons_self ..)).1, D17.out.rl.cell⟩) (fun _ => ?_)
                clear hK' K'
                try simp only [Act.put, List.setIfInBounds_toArray, List.set_cons_zero, List.set_cons_succ]
                refine wpAnyH_ready (rs := [12]) (by kernel_rfl) (by simp) ?_
                refine AllReadyH.cons (o := { dst := some 119, op := Op.call { callee := Callee.value (Operand.func 19), args := #[Operand.tmp 114, Operand.tmp 118], argTypes := #[43, 43] }, type := _, pos := _, after := _, guard := some (5, true) }) rfl (fun K' hK' => ?_) AllReadyH.nil
                go_simp
                go_at_call 19
                refine (HSame.out _ _ _ _ _ xs xs HI17.out D17.out.rl.row.its (Nat.le_trans HLe.out (by decide)) (Nat.le_trans HLe.out (by decide))).mono ?_
                rintro E w18 ⟨rfl, bb18⟩
                rw [decide_eq_true rfl]
                have D18 := Lib.hid (D17.out.below bb18)
                clear bb18 HI17 D17
                refine hK'.out _ _ (⟨(D18.out.s1.keep _ (List.mem_cons_self ..)).1, D18.out.rl.cell⟩) (fun _ => ?_)
                clear hK' K'
                try simp only [Act.put, List.setIfInBounds_toArray, List.set_cons_zero, List.set_cons_succ]
                refine wpAnyH_take (i := 13) (oi := { dst := some 120, op := Op.pick (Operand.tmp 112) (Operand.tmp 119) (Operand.const (Value.bool false)), type := _, pos := _, after := _, guard := none }) (v := .bool true) rfl (by kernel_rfl) (by kernel_rfl) (by kernel_rfl) (fun _ _ _ h => h) (Or.inl ⟨by kernel_rfl, fun W hSW => by go_simp⟩) (⟨(D18.out.s1.keep _ (List.mem_cons_self ..)).1, D18.out.rl.cell⟩) ?_
                try simp only [Act.put, List.setIfInBounds_toArray, List.set_cons_zero, List.set_cons_succ]
                refine wpAnyH_take (i := 14) (oi := { dst := some 121, op := Op.move (Operand.tmp 120), type := _, pos := _, after := _, guard := none }) (v := .bool true) rfl (by kernel_rfl) (by kernel_rfl) (by kernel_rfl) (fun _ _ _ h => h) (Or.inl ⟨by kernel_rfl, fun W hSW => by go_simp⟩) (⟨(D18.out.s1.keep _ (List.mem_cons_self ..)).1, D18.out.rl.cell⟩) ?_
                try simp only [Act.put, List.setIfInBounds_toArray, List.set_cons_zero, List.set_cons_succ]
                refine wpAnyH_ready (rs := [15]) (by kernel_rfl) (by simp) ?_
                refine AllReadyH.cons (o := { dst := some 122, op := Op.call { callee := Callee.value (Operand.func 9), args := #[], argTypes := #[] }, type := _, pos := _, after := _, guard := some (14, true) }) rfl (fun K' hK' => ?_) AllReadyH.nil
                go_simp
                go_at_call 9
                refine (HW.out _ D18.out.s1.bel).mono ?_
                rintro E w19 ⟨rfl, bb19⟩
                have D19 := Lib.hid (D18.out.below bb19)
                clear bb19 D18
                refine hK'.out _ _ (⟨(D19.out.s1.keep _ (List.mem_cons_self ..)).1, D19.out.rl.cell⟩) (fun _ => ?_)
                clear hK' K'
                try simp only [Act.put, List.setIfInBounds_toArray, List.set_cons_zero, List.set_cons_succ]
                refine wpAnyH_take (i := 16) (oi := { dst := some 123, op := Op.pick (Operand.tmp 121) (Operand.tmp 122) (Operand.const (Value.bool false)), type := _, pos := _, after := _, guard := none }) (v := .bool true) rfl (by kernel_rfl) (by kernel_rfl) (by kernel_rfl) (fun _ _ _ h => h) (Or.inl ⟨by kernel_rfl, fun W hSW => by go_simp⟩) (⟨(D19.out.s1.keep _ (List.mem_cons_self ..)).1, D19.out.rl.cell⟩) ?_
                try simp only [Act.put, List.setIfInBounds_toArray, List.set_cons_zero, List.set_cons_succ]
                refine wpAnyH_take (i := 17) (oi := { dst := some 6, op := Op.assign (Operand.tmp 123), type := _, pos := _, after := _, guard := none }) (v := .bool true) rfl (by kernel_rfl) (by kernel_rfl) (by kernel_rfl) (fun _ _ _ h => h) (Or.inl ⟨by kernel_rfl, fun W hSW => by go_simp⟩) (⟨(D19.out.s1.keep _ (List.mem_cons_self ..)).1, D19.out.rl.cell⟩) ?_
                try simp only [Act.put, List.setIfInBounds_toArray, List.set_cons_zero, List.set_cons_succ]
                refine wpAnyH_done (by kernel_rfl) ?_ _
                go_wp2_with fail
                go_ret
                exact ⟨rfl, D19.out.s1.bel⟩
              · have hc3 : cl < 1 := by omega
                clear hc
                go_wp2_with fail
                refine wp_region_any (by kernel_rfl) ?_
                change wpAny _ _ _ _ _ _ _ (World.drewN _ 1)
                refine held_gen (G := fun W => wpAny _ _ _ _ _ _ _ W) (fun W => Pd w t g t2 g2 [(wr.heap.size, (lsC (tLast T cl)).toArray, 34)] W T r c xs T r2 c2 xs) (D14.out.drewN 1) (fun w15 hW9 => ?_)
                have D15 := Lib.hid hW9
                clear hW9 D14
                refine wpAny_of_held (S := fun W => W.heap[wr.heap.size]? = some (.cells (lsC (tLast T cl)).toArray 34 (0, 0)) ∧ W.cell? ⟨g2, 0, none⟩ = some (.slice (slA r2) xs.length c2)) _ _ _ _ ?_
                refine wpAnyH_take (i := 0) (oi := { dst := some 107, op := Op.move (Operand.tmp 7), type := _, pos := _, after := _, guard := none }) (v := .pointer (some ⟨t, 0, none⟩)) rfl (by kernel_rfl) (by kernel_rfl) (by kernel_rfl) (fun _ _ _ h => h) (Or.inl ⟨by kernel_rfl, fun W hSW => by go_simp⟩) (⟨(D15.out.s1.keep _ (List.mem_cons_self ..)).1, D15.out.rl.cell⟩) ?_
                try simp only [Act.put, List.setIfInBounds_toArray, List.set_cons_zero, List.set_cons_succ]
                refine wpAnyH_take (i := 1) (oi := { dst := some 108, op := Op.move (Operand.tmp 2), type := _, pos := _, after := _, guard := none }) (v := .int .i64 cl) rfl (by kernel_rfl) (by kernel_rfl) (by kernel_rfl) (fun _ _ _ h => h) (Or.inl ⟨by kernel_rfl, fun W hSW => by go_simp⟩) (⟨(D15.out.s1.keep _ (List.mem_cons_self ..)).1, D15.out.rl.cell⟩) ?_
                try simp only [Act.put, List.setIfInBounds_toArray, List.set_cons_zero, List.set_cons_succ]
                refine wpAnyH_take (i := 3) (oi := { dst := some 110, op := Op.load 34 (Operand.tmp 18), type := _, pos := _, after := _, guard := none }) (v := .agg (lsC (tLast T cl)).toArray) rfl (by kernel_rfl) (by kernel_rfl) (by kernel_rfl) (fun _ _ _ h => h) (Or.inl ⟨by kernel_rfl, fun W hSW => exec_load_mid 34 (.tmp 18) rfl wr.heap.size 0 rfl (lsC (tLast T cl)) _ (range_all hSW.1) Tryd.underlying34 rfl Tryd.is34⟩) (⟨(D15.out.s1.keep _ (List.mem_cons_self ..)).1, D15.out.rl.cell⟩) ?_
                try simp only [Act.put, List.setIfInBounds_toArray, List.set_cons_zero, List.set_cons_succ]
                refine wpAnyH_ready (rs := [2]) (by kernel_rfl) (by simp) ?_
                refine AllReadyH.cons (o := { dst := some 109, op := Op.call { callee := Callee.value (Operand.func 18), args := #[Operand.tmp 107, Operand.tmp 108], argTypes := #[26, 3] }, type := _, pos := _, after := _, guard := none }) rfl (fun K' hK' => ?_) AllReadyH.nil
                go_simp
                go_at_call 18
                refine (tlast_any D15.out.s1.tbl cl).mono ?_
                rintro E w16 ⟨rfl, bb16⟩
                have D16 := Lib.hid (D15.out.below bb16)
                clear bb16 D15
                refine hK'.out _ _ (⟨(D16.out.s1.keep _ (List.mem_cons_self ..)).1, D16.out.rl.cell⟩) (fun _ => ?_)
                clear hK' K'
                try simp only [Act.put, List.setIfInBounds_toArray, List.set_cons_zero, List.set_cons_succ]
                refine wpAnyH_take (i := 4) (oi := { dst := some 111, op := Op.binOp BinOp.eql 34 (Operand.tmp 109) (Operand.tmp 110) 34, type := _, pos := _, after := _, guard := none }) (v := .bool true) rfl (by kernel_rfl) (by kernel_rfl) (by kernel_rfl) (fun _ _ _ h => h) (Or.inl ⟨by kernel_rfl, fun W hSW => by go_simp⟩) (⟨(D16.out.s1.keep _ (List.mem_cons_self ..)).1, D16.out.rl.cell⟩) ?_
                try simp only [Act.put, List.setIfInBounds_toArray, List.set_cons_zero, List.set_cons_succ]
                refine wpAnyH_take (i := 5) (oi := { dst := some 112, op := Op.move (Operand.tmp 111), type := _, pos := _, after := _, guard := none }) (v := .bool true) rfl (by kernel_rfl) (by kernel_rfl) (by kernel_rfl) (fun _ _ _ h => h) (Or.inl ⟨by kernel_rfl, fun W hSW => by go_simp⟩) (⟨(D16.out.s1.keep _ (List.mem_cons_self ..)).1, D16.out.rl.cell⟩) ?_
                try simp only [Act.put, List.setIfInBounds_toArray, List.set_cons_zero, List.set_cons_succ]
                refine wpAnyH_take (i := 6) (oi := { dst := some 113, op := Op.move (Operand.tmp 11), type := _, pos := _, after := _, guard := some (5, true) }) (v := .pointer (some ⟨g, 0, none⟩)) rfl (by kernel_rfl) (by kernel_rfl) (by kernel_rfl) (fun _ _ _ h => h) (Or.inl ⟨by kernel_rfl, fun W hSW => by go_simp⟩) (⟨(D16.out.s1.keep _ (List.mem_cons_self ..)).1, D16.out.rl.cell⟩) ?_
                try simp only [Act.put, List.setIfInBounds_toArray, List.set_cons_zero, List.set_cons_succ]
                refine wpAnyH_take (i := 8) (oi := { dst := some 115, op := Op.move (Operand.tmp 12), type := _, pos := _, after := _, guard := some (5, true) }) (v := .pointer (some ⟨g2, 0, none⟩)) rfl (by kernel_rfl) (by kernel_rfl) (by kernel_rfl) (fun _ _ _ h => h) (Or.inl ⟨by kernel_rfl, fun W hSW => by go_simp⟩) (⟨(D16.out.s1.keep _ (List.mem_cons_self ..)).1, D16.out.rl.cell⟩) ?_
                try simp only [Act.put, List.setIfInBounds_toArray, List.set_cons_zero, List.set_cons_succ]
                refine wpAnyH_take (i := 9) (oi := { dst := some 116, op := Op.nilCheck (Operand.tmp 115), type := _, pos := _, after := _, guard := some (5, true) }) (v := .pointer (some ⟨g2, 0, none⟩)) rfl (by kernel_rfl) (by kernel_rfl) (by kernel_rfl) (fun _ _ _ h => h) (Or.inl ⟨by kernel_rfl, fun W hSW => by go_simp⟩) (⟨(D16.out.s1.keep _ (List.mem_cons_self ..)).1, D16.out.rl.cell⟩) ?_
                try simp only [Act.put, List.setIfInBounds_toArray, List.set_cons_zero, List.set_cons_succ]
                refine wpAnyH_take (i := 10) (oi := { dst := some 117, op := Op.fieldAddr 45 (Operand.tmp 116) 0, type := _, pos := _, after := _, guard := some (5, true) }) (v := .pointer (some ⟨g2, 0, none⟩)) rfl (by kernel_rfl) (by kernel_rfl) (by kernel_rfl) (fun _ _ _ h => h) (Or.inl ⟨by kernel_rfl, fun W hSW => by go_simp⟩) (⟨(D16.out.s1.keep _ (List.mem_cons_self ..)).1, D16.out.rl.cell⟩) ?_
                try simp only [Act.put, List.setIfInBounds_toArray, List.set_cons_zero, List.set_cons_succ]
                refine wpAnyH_take (i := 11) (oi := { dst := some 118, op := Op.load 43 (Operand.tmp 117), type := _, pos := _, after := _, guard := some (5, true) }) (v := .slice (slA r2) xs.length c2) rfl (by kernel_rfl) (by kernel_rfl) (by kernel_rfl) (fun _ _ _ h => h) (Or.inl ⟨by kernel_rfl, fun W hSW => by have hc := hSW.2; go_simp⟩) (⟨(D16.out.s1.keep _ (List.mem_cons_self ..)).1, D16.out.rl.cell⟩) ?_
                try simp only [Act.put, List.setIfInBounds_toArray, List.set_cons_zero, List.set_cons_succ]
                refine wpAnyH_ready (rs := [7]) (by kernel_rfl) (by simp) ?_
                refine AllReadyH.cons (o := { dst := some 114, op := Op.call { callee := Callee.value (Operand.func 20), args := #[Operand.tmp 113], argTypes := #[40] }, type := _, pos := _, after := _, guard := some (5, true) }) rfl (fun K' hK' => ?_) AllReadyH.nil
                go_simp
                go_at_call 20
                refine (list_any D16.out.s1.sys.led (Nat.le_trans HLe.out (by decide))).mono ?_
                rintro E w17 ⟨r17, c17, rfl, hR17, _, bb17⟩
                have D17 := Lib.hid (D16.out.below bb17)
                have HI17 := Lib.hid hR17.its
                clear bb17 hR17 D16
                refine hK'.out _ _ (⟨(D17.out.s1.keep _ (List.mem_cons_self ..)).1, D17.out.rl.cell⟩) (fun _ => ?_)
                clear hK' K'
                try simp only [Act.put, List.setIfInBounds_toArray, List.set_cons_zero, List.set_cons_succ]
                refine wpAnyH_ready (rs := [12]) (by kernel_rfl) (by simp) ?_
                refine AllReadyH.cons (o := { dst := some 119, op := Op.call { callee := Callee.value (Operand.func 19), args := #[Operand.tmp 114, Operand.tmp 118], argTypes := #[43, 43] }, type := _, pos := _, after := _, guard := some (5, true) }) rfl (fun K' hK' => ?_) AllReadyH.nil
                go_simp
                go_at_call 19
                refine (HSame.out _ _ _ _ _ xs xs HI17.out D17.out.rl.row.its (Nat.le_trans HLe.out (by decide)) (Nat.le_trans HLe.out (by decide))).mono ?_
                rintro E w18 ⟨rfl, bb18⟩
                rw [decide_eq_true rfl]
                have D18 := Lib.hid (D17.out.below bb18)
                clear bb18 HI17 D17
                refine hK'.out _ _ (⟨(D18.out.s1.keep _ (List.mem_cons_self ..)).1, D18.out.rl.cell⟩) (fun _ => ?_)
                clear hK' K'
                try simp only [Act.put, List.setIfInBounds_toArray, List.set_cons_zero, List.set_cons_succ]
                refine wpAnyH_take (i := 13) (oi := { dst := some 120, op := Op.pick (Operand.tmp 112) (Operand.tmp 119) (Operand.const (Value.bool false)), type := _, pos := _, after := _, guard := none }) (v := .bool true) rfl (by kernel_rfl) (by kernel_rfl) (by kernel_rfl) (fun _ _ _ h => h) (Or.inl ⟨by kernel_rfl, fun W hSW => by go_simp⟩) (⟨(D18.out.s1.keep _ (List.mem_cons_self ..)).1, D18.out.rl.cell⟩) ?_
                try simp only [Act.put, List.setIfInBounds_toArray, List.set_cons_zero, List.set_cons_succ]
                refine wpAnyH_take (i := 14) (oi := { dst := some 121, op := Op.move (Operand.tmp 120), type := _, pos := _, after := _, guard := none }) (v := .bool true) rfl (by kernel_rfl) (by kernel_rfl) (by kernel_rfl) (fun _ _ _ h => h) (Or.inl ⟨by kernel_rfl, fun W hSW => by go_simp⟩) (⟨(D18.out.s1.keep _ (List.mem_cons_self ..)).1, D18.out.rl.cell⟩) ?_
                try simp only [Act.put, List.setIfInBounds_toArray, List.set_cons_zero, List.set_cons_succ]
                refine wpAnyH_ready (rs := [15]) (by kernel_rfl) (by simp) ?_
                refine AllReadyH.cons (o := { dst := some 122, op := Op.call { callee := Callee.value (Operand.func 9), args := #[], argTypes := #[] }, type := _, pos := _, after := _, guard := some (14, true) }) rfl (fun K' hK' => ?_) AllReadyH.nil
                go_simp
                go_at_call 9
                refine (HW.out _ D18.out.s1.bel).mono ?_
                rintro E w19 ⟨rfl, bb19⟩
                have D19 := Lib.hid (D18.out.below bb19)
                clear bb19 D18
                refine hK'.out _ _ (⟨(D19.out.s1.keep _ (List.mem_cons_self ..)).1, D19.out.rl.cell⟩) (fun _ => ?_)
                clear hK' K'
                try simp only [Act.put, List.setIfInBounds_toArray, List.set_cons_zero, List.set_cons_succ]
                refine wpAnyH_take (i := 16) (oi := { dst := some 123, op := Op.pick (Operand.tmp 121) (Operand.tmp 122) (Operand.const (Value.bool false)), type := _, pos := _, after := _, guard := none }) (v := .bool true) rfl (by kernel_rfl) (by kernel_rfl) (by kernel_rfl) (fun _ _ _ h => h) (Or.inl ⟨by kernel_rfl, fun W hSW => by go_simp⟩) (⟨(D19.out.s1.keep _ (List.mem_cons_self ..)).1, D19.out.rl.cell⟩) ?_
                try simp only [Act.put, List.setIfInBounds_toArray, List.set_cons_zero, List.set_cons_succ]
                refine wpAnyH_take (i := 17) (oi := { dst := some 6, op := Op.assign (Operand.tmp 123), type := _, pos := _, after := _, guard := none }) (v := .bool true) rfl (by kernel_rfl) (by kernel_rfl) (by kernel_rfl) (fun _ _ _ h => h) (Or.inl ⟨by kernel_rfl, fun W hSW => by go_simp⟩) (⟨(D19.out.s1.keep _ (List.mem_cons_self ..)).1, D19.out.rl.cell⟩) ?_
                try simp only [Act.put, List.setIfInBounds_toArray, List.set_cons_zero, List.set_cons_succ]
                refine wpAnyH_done (by kernel_rfl) ?_ _
                go_wp2_with fail
                go_ret
                exact ⟨rfl, D19.out.s1.bel⟩
      | false =>
        have HRof : Hid (∀ W, Below w.heap.size w W → Calls Tryd.prog 11 #[.slice FA n0 fc] W fun E w' => E = .returned (.tuple #[.agg (tbC zT).toArray, .int .i64 1]) ∧ Below W.heap.size W w') := Lib.hid fun W hb => (HRo.out W hb).mono fun E w' h => by rw [hok] at h; exact h
        have HTof : Hid (∀ W A1 c1, Lss W A1 T0 → Calls Tryd.prog 10 #[.slice A1 n0 c1] W fun E w' => E = .returned (.tuple #[.pointer none, .int .i64 1]) ∧ Below W.heap.size W w') := Lib.hid fun W A1 c1 h => (HTo.out W A1 c1 h).mono fun E w' ⟨h1, h2⟩ => by rw [if_neg (fun e => by rw [okT_iff.2 e] at hok; cases hok)] at h2; exact ⟨h2, h1⟩
        have HT8 : Hid (zT.length = 8) := Lib.hid rfl
        clear hok HRo HTo
        have HTi : Hid ((Tryd.prog.info? 36).map (·.size) = some (tbC zT).length) := Lib.hid (by rw [tbC_length, HT8.out]; exact Tryd.is36)
        have HTl : Hid (ZT.length = (tbC zT).length) := Lib.hid (by rw [HZt.out, tbC_length, HT8.out])
        have HT1 := Lib.hid (tbC_one zT)
        have HOm : Hid ((w1.alloc (.cells #[] 34)).ownsRow w1.heap.size 34 3 (.slice (some ⟨w1.heap.size, 0, none⟩) 0 0) 0 []) := Lib.hid (World.ownsRow_made w1 #[] 0 (Nat.le_refl _) (Nat.zero_le _) (by simp))
        have HBa : Hid (Below w1.heap.size w1 (w1.alloc (.cells #[] 34))) := Lib.hid ((Below.refl _ _).alloc (Nat.le_refl _) _)
        have HFa : Hid (Lss (w1.alloc (.cells #[] 34)) FA T0) := Lib.hid ((HFl.out.below B1.out).below HBa.out)
        have hl1000 : n0 ≤ 1000 := by omega
        go_wp2_with (first
          | (at_builtin; refine app_lss rfl _ _ rfl rfl HOm.out HBa.out rfl HN0.out HFa.out HF0.out hl1000 ?_; intro A2 c2 w2 hL2 hb2; have HL2 := Lib.hid hL2; have B2 := Lib.hid (B1.out.trans (hb2.mono B1.out.size)); clear hL2 hb2 B1 HOm HBa HFa)
          | (go_at_call 10; refine (HTof.out _ _ _ HL2.out).mono ?_; rintro E w3 ⟨rfl, hb3⟩; have B3 := Lib.hid (B2.out.trans (hb3.mono B2.out.size)); clear hb3 HL2 HTof B2)
          | (go_at_call 11; refine (HRof.out _ B3.out).mono ?_; rintro E w4 ⟨rfl, hb4⟩; have B4 := Lib.hid (B3.out.trans (hb4.mono B3.out.size)); clear hb4 B3 HRof)
          | (refine wpList_store_all rfl 36 (.tmp 9) (.tmp 38) rfl w4.heap.size ZT (tbC zT) 36 (heap_alloc_new w4 (.cells ZT.toArray 36)) HTl.out rfl rfl HTi.out HT1.out ?_; intro w5 hw5; have HR5 := Lib.hid (show RTb w5 w4.heap.size zT from ⟨hw5.out.1, HT8.out⟩); have B5 : Hid (Below w.heap.size w w5) := Lib.hid ((B4.out.alloc B4.out.size _).grown hw5.out.2 (B4.out.alloc B4.out.size _).size (fun k hk => by injection hk with hk; rw [← hk]; exact B4.out.size)); have HG4 : Hid (w.heap.size ≤ w4.heap.size) := Lib.hid B4.out.size; clear B4 hw5)
          | (go_at_call 12; refine (tnew_any _).mono ?_; rintro E w6 ⟨rfl, ht6, hb6⟩; have HT6 : Hid (Tbl w6 w5.heap.size zT ∧ w.heap.size ≤ w5.heap.size ∧ w5.heap.size ≠ w4.heap.size) := Lib.hid ⟨ht6, B5.out.size, by have := HR5.out.lt; omega⟩; have HR6 := Lib.hid (HR5.out.below hb6); have B6 := Lib.hid (B5.out.trans (hb6.mono B5.out.size)); clear ht6 hb6 HR5 B5)
          | (go_at_call 13; refine (new_any (HV.out.below B6.out)).mono ?_; rintro E w7 ⟨rfl, hs7, hb7⟩; have S8 := Lib.hid (pd_of HV.out B6.out HT6.out.1 HR6.out HT6.out.2.2 HT6.out.2.1 HG4.out hs7 hb7); clear hs7 hb7 HT6 HR6 B6))
        generalize w6.heap.size = g at *
        generalize w7.heap.size = g2 at *
        generalize w5.heap.size = t at *
        generalize w4.heap.size = t2 at *
        go_loopw [13] (fun v13 wr => ∃ (k : Nat) (T : List Lst) (r : Option Nat) (c : Nat) (xs : List It) (r2 : Option Nat) (c2 : Nat), k ≤ n ∧ v13 = .int .i64 (k : Int) ∧ Hid (Pd w t g t2 g2 [] wr T r c xs T r2 c2 xs)) (fun v13 _ => n - (intOf v13).toNat)
        case atStart => exact ⟨0, _, none, 0, [], none, 0, by omega, rfl, S8⟩
        case round =>
          clear S8
          obtain ⟨k, T, r, c, xs, r2, c2, hk, rfl, D⟩ := hrel
          by_cases hkk : k < n
          · obtain ⟨q, hq⟩ : ∃ q, qs[k]? = some q := ⟨_, List.getElem?_eq_getElem (by rw [← HL.out]; exact hkk)⟩
            obtain ⟨b', off, rfl, hr⟩ := HReq.out k q hq
            have HRg := Lib.hid hr
            have HI := Lib.hid (HInfo.out q (List.mem_of_getElem? hq))
            have hdec : decide ((k : Int) < (n : Int)) = true := decide_eq_true (by omega)
            have hj0 : (0 : Int) ≤ (k : Int) := by omega
            have hjn : (k : Int) < (n : Int) := by omega
            have htn : ((k : Int)).toNat = k := by omega
            have hw1 : IntKind.i64.wrap ((k : Int) + 1) = (k : Int) + 1 := by rw [IntKind.wrap_i64]; omega
            have HRi := Lib.hid D.out.s1.sys.rise
            have HLe := Lib.hid D.out.s1.sys.len
            have HSm := Lib.hid D.out.s1.sys.small
            obtain ⟨er, vl, z, hres⟩ := tR_rep T xs q
            obtain ⟨T', hT'⟩ : ∃ T', T' = (tR T xs q).2.1 := ⟨_, rfl⟩
            obtain ⟨ys, hys⟩ : ∃ ys, ys = (tR T xs q).2.2 := ⟨_, rfl⟩
            have HRes : Hid (tR T xs q = (((er, vl), z), T', ys)) := Lib.hid (by rw [← hres, hT', hys])
            have HD1 : Hid (∀ W r c r2 c2, Pd w t g t2 g2 [] W T r c xs T r2 c2 xs → Calls Tryd.prog 14 #[.pointer (some ⟨t, 0, none⟩), .pointer (some ⟨g, 0, none⟩), .agg (rqC q).toArray] W fun E W' => E = .returned (.tuple #[.agg #[.int .i64 er, .string vl], .bool z]) ∧ ∃ r' c', Pd w t g t2 g2 [] W' T' r' c' ys T r2 c2 xs) := Lib.hid fun W r c r2 c2 h => (h.do1 q).mono fun E W' hE => by rw [HRes.out] at hE; exact hE
            have HD2 : Hid (∀ W rb r c r2 c2, Pd w t g t2 g2 [(rb, #[.int .i64 er, .string vl], 32)] W T' r c ys T r2 c2 xs → Calls Tryd.prog 15 #[.pointer (some ⟨t2, 0, none⟩), .pointer (some ⟨g2, 0, none⟩), .agg (rqC q).toArray] W fun E W' => E = .returned (.tuple #[.agg #[.int .i64 er, .string vl], .bool z]) ∧ ∃ r' c', Pd w t g t2 g2 [(rb, #[.int .i64 er, .string vl], 32)] W' T' r c ys T' r' c' ys) := Lib.hid fun W rb r c r2 c2 h => (h.do2 HRi.out HLe.out HSm.out q).mono fun E W' hE => by rw [HRes.out] at hE; exact hE
            clear hr hres hT' hys hq HRes
            have g32 := Tryd.guard32
            have e32 : ∀ w, (Op.equalIn 10000 32 (.agg #[.int .i64 er, .string vl]) (.agg #[.int .i64 er, .string vl])).run Tryd.prog w = .ok true w := fun w => eq_lrp_of (d := 9998) (er, vl) (er, vl) (by simp) w
            go_wp2_with (first | ((with_reducible refine wpList_load_midG ?_ 52 (.tmp 67) ?_ b' (off + k * 40) ?_ (rqC q) _ ?_ Tryd.underlying52 ?_ ?_ ?_); rotate_left; (· rfl); (· rfl); (· exact HRg.out _ D.out.s1.bel); (· rfl); (· exact HI.out); rotate_left; (· rfl)) | (go_at_call 14; refine (HD1.out _ _ _ _ _ D.out).mono ?_))
            rintro E w9 ⟨rfl, r9, c9, h9⟩
            have D9 := Lib.hid (h9.box #[.int .i64 er, .string vl] 32)
            clear D h9 HD1
            go_wp2_with (first | ((with_reducible refine wpList_load_midG ?_ 52 (.tmp 76) ?_ b' (off + k * 40) ?_ (rqC q) _ ?_ Tryd.underlying52 ?_ ?_ ?_); rotate_left; (· rfl); (· rfl); (· exact HRg.out _ D9.out.s1.bel); (· rfl); (· exact HI.out); rotate_left; (· rfl)) | (go_at_call 15; refine (HD2.out _ _ _ _ _ _ D9.out).mono ?_))
            rintro E w10 ⟨rfl, r10, c10, h10⟩
            have D10 := Lib.hid (h10.box #[.int .i64 er, .string vl] 32)
            clear D9 h10 HD2 HI
            have HT8 := Lib.hid D10.out.s1.tbl.len
            have HI36 : Hid ((Tryd.prog.info? 36).map (·.size) = some (tbC T').length) := Lib.hid (by rw [tbC_length, HT8.out]; exact Tryd.is36)
            go_wp2_with fail
            refine wp_region_any (by kernel_rfl) ?_
            change wpAny _ _ _ _ _ _ _ (World.drewN _ 1)
            refine held_gen (G := fun W => wpAny _ _ _ _ _ _ _ W) (fun W => Pd w t g t2 g2 [(w10.heap.size, #[.int .i64 er, .string vl], 32), (w9.heap.size, #[.int .i64 er, .string vl], 32)] W T' r9 c9 ys T' r10 c10 ys) (D10.out.drewN 1) (fun w11 hW9 => ?_)
            have D11 := Lib.hid hW9
            clear hW9 D10
            refine wpAny_of_held (S := fun W => W.heap[w9.heap.size]? = some (.cells ([.int .i64 er, .string vl] : List Value).toArray 32 (0, 0)) ∧ W.heap[w10.heap.size]? = some (.cells ([.int .i64 er, .string vl] : List Value).toArray 32 (0, 0)) ∧ W.heap[t2]? = some (.cells (tbC T').toArray 36 (0, 0))) _ _ _ _ ?_
            refine wpAnyH_take (i := 0) (oi := { dst := some 81, op := Op.load 32 (Operand.tmp 14), type := _, pos := _, after := _, guard := none }) (v := .agg #[.int .i64 er, .string vl]) rfl (by kernel_rfl) (by kernel_rfl) (by kernel_rfl) (fun _ _ _ h => h) (Or.inl ⟨by kernel_rfl, fun W hSW => exec_load_mid 32 (.tmp 14) rfl w9.heap.size 0 rfl [.int .i64 er, .string vl] _ (range_all hSW.1) Tryd.underlying32 rfl Tryd.is32⟩) (⟨(D11.out.s1.keep _ (List.mem_cons_of_mem _ (List.mem_cons_self ..))).1, (D11.out.s1.keep _ (List.mem_cons_self ..)).1, D11.out.rt.top⟩) ?_
            try simp only [Act.put, List.setIfInBounds_toArray, List.set_cons_zero, List.set_cons_succ]
            refine wpAnyH_take (i := 1) (oi := { dst := some 82, op := Op.load 32 (Operand.tmp 16), type := _, pos := _, after := _, guard := none }) (v := .agg #[.int .i64 er, .string vl]) rfl (by kernel_rfl) (by kernel_rfl) (by kernel_rfl) (fun _ _ _ h => h) (Or.inl ⟨by kernel_rfl, fun W hSW => exec_load_mid 32 (.tmp 16) rfl w10.heap.size 0 rfl [.int .i64 er, .string vl] _ (range_all hSW.2.1) Tryd.underlying32 rfl Tryd.is32⟩) (⟨(D11.out.s1.keep _ (List.mem_cons_of_mem _ (List.mem_cons_self ..))).1, (D11.out.s1.keep _ (List.mem_cons_self ..)).1, D11.out.rt.top⟩) ?_
            try simp only [Act.put, List.setIfInBounds_toArray, List.set_cons_zero, List.set_cons_succ]
            refine wpAnyH_take (i := 2) (oi := { dst := some 83, op := Op.binOp BinOp.neq 32 (Operand.tmp 81) (Operand.tmp 82) 32, type := _, pos := _, after := _, guard := none }) (v := .bool false) rfl (by kernel_rfl) (by kernel_rfl) (by kernel_rfl) (fun _ _ _ h => h) (Or.inl ⟨by kernel_rfl, fun W hSW => by go_simp⟩) (⟨(D11.out.s1.keep _ (List.mem_cons_of_mem _ (List.mem_cons_self ..))).1, (D11.out.s1.keep _ (List.mem_cons_self ..)).1, D11.out.rt.top⟩) ?_
            try simp only [Act.put, List.setIfInBounds_toArray, List.set_cons_zero, List.set_cons_succ]
            refine wpAnyH_take (i := 3) (oi := { dst := some 84, op := Op.move (Operand.tmp 83), type := _, pos := _, after := _, guard := none }) (v := .bool false) rfl (by kernel_rfl) (by kernel_rfl) (by kernel_rfl) (fun _ _ _ h => h) (Or.inl ⟨by kernel_rfl, fun W hSW => by go_simp⟩) (⟨(D11.out.s1.keep _ (List.mem_cons_of_mem _ (List.mem_cons_self ..))).1, (D11.out.s1.keep _ (List.mem_cons_self ..)).1, D11.out.rt.top⟩) ?_
            try simp only [Act.put, List.setIfInBounds_toArray, List.set_cons_zero, List.set_cons_succ]
            refine wpAnyH_take (i := 4) (oi := { dst := some 85, op := Op.move (Operand.tmp 15), type := _, pos := _, after := _, guard := some (3, false) }) (v := .bool z) rfl (by kernel_rfl) (by kernel_rfl) (by kernel_rfl) (fun _ _ _ h => h) (Or.inl ⟨by kernel_rfl, fun W hSW => by go_simp⟩) (⟨(D11.out.s1.keep _ (List.mem_cons_of_mem _ (List.mem_cons_self ..))).1, (D11.out.s1.keep _ (List.mem_cons_self ..)).1, D11.out.rt.top⟩) ?_
            try simp only [Act.put, List.setIfInBounds_toArray, List.set_cons_zero, List.set_cons_succ]
            refine wpAnyH_take (i := 5) (oi := { dst := some 86, op := Op.move (Operand.tmp 17), type := _, pos := _, after := _, guard := some (3, false) }) (v := .bool z) rfl (by kernel_rfl) (by kernel_rfl) (by kernel_rfl) (fun _ _ _ h => h) (Or.inl ⟨by kernel_rfl, fun W hSW => by go_simp⟩) (⟨(D11.out.s1.keep _ (List.mem_cons_of_mem _ (List.mem_cons_self ..))).1, (D11.out.s1.keep _ (List.mem_cons_self ..)).1, D11.out.rt.top⟩) ?_
            try simp only [Act.put, List.setIfInBounds_toArray, List.set_cons_zero, List.set_cons_succ]
            refine wpAnyH_take (i := 6) (oi := { dst := some 87, op := Op.binOp BinOp.neq 4 (Operand.tmp 85) (Operand.tmp 86) 4, type := _, pos := _, after := _, guard := some (3, false) }) (v := .bool false) rfl (by kernel_rfl) (by kernel_rfl) (by kernel_rfl) (fun _ _ _ h => h) (Or.inl ⟨by kernel_rfl, fun W hSW => by cases z <;> go_simp⟩) (⟨(D11.out.s1.keep _ (List.mem_cons_of_mem _ (List.mem_cons_self ..))).1, (D11.out.s1.keep _ (List.mem_cons_self ..)).1, D11.out.rt.top⟩) ?_
            try simp only [Act.put, List.setIfInBounds_toArray, List.set_cons_zero, List.set_cons_succ]
            refine wpAnyH_take (i := 7) (oi := { dst := some 88, op := Op.pick (Operand.tmp 84) (Operand.const (Value.bool true)) (Operand.tmp 87), type := _, pos := _, after := _, guard := none }) (v := .bool false) rfl (by kernel_rfl) (by kernel_rfl) (by kernel_rfl) (fun _ _ _ h => h) (Or.inl ⟨by kernel_rfl, fun W hSW => by go_simp⟩) (⟨(D11.out.s1.keep _ (List.mem_cons_of_mem _ (List.mem_cons_self ..))).1, (D11.out.s1.keep _ (List.mem_cons_self ..)).1, D11.out.rt.top⟩) ?_
            try simp only [Act.put, List.setIfInBounds_toArray, List.set_cons_zero, List.set_cons_succ]
            refine wpAnyH_take (i := 8) (oi := { dst := some 89, op := Op.move (Operand.tmp 88), type := _, pos := _, after := _, guard := none }) (v := .bool false) rfl (by kernel_rfl) (by kernel_rfl) (by kernel_rfl) (fun _ _ _ h => h) (Or.inl ⟨by kernel_rfl, fun W hSW => by go_simp⟩) (⟨(D11.out.s1.keep _ (List.mem_cons_of_mem _ (List.mem_cons_self ..))).1, (D11.out.s1.keep _ (List.mem_cons_self ..)).1, D11.out.rt.top⟩) ?_
            try simp only [Act.put, List.setIfInBounds_toArray, List.set_cons_zero, List.set_cons_succ]
            refine wpAnyH_take (i := 9) (oi := { dst := some 90, op := Op.move (Operand.tmp 7), type := _, pos := _, after := _, guard := some (8, false) }) (v := .pointer (some ⟨t, 0, none⟩)) rfl (by kernel_rfl) (by kernel_rfl) (by kernel_rfl) (fun _ _ _ h => h) (Or.inl ⟨by kernel_rfl, fun W hSW => by go_simp⟩) (⟨(D11.out.s1.keep _ (List.mem_cons_of_mem _ (List.mem_cons_self ..))).1, (D11.out.s1.keep _ (List.mem_cons_self ..)).1, D11.out.rt.top⟩) ?_
            try simp only [Act.put, List.setIfInBounds_toArray, List.set_cons_zero, List.set_cons_succ]
            refine wpAnyH_take (i := 11) (oi := { dst := some 92, op := Op.load 36 (Operand.tmp 9), type := _, pos := _, after := _, guard := some (8, false) }) (v := .agg (tbC T').toArray) rfl (by kernel_rfl) (by kernel_rfl) (by kernel_rfl) (fun _ _ _ h => h) (Or.inl ⟨by kernel_rfl, fun W hSW => exec_load_mid 36 (.tmp 9) rfl t2 0 rfl (tbC T') _ (range_all hSW.2.2) Tryd.underlying36 rfl HI36.out⟩) (⟨(D11.out.s1.keep _ (List.mem_cons_of_mem _ (List.mem_cons_self ..))).1, (D11.out.s1.keep _ (List.mem_cons_self ..)).1, D11.out.rt.top⟩) ?_
            try simp only [Act.put, List.setIfInBounds_toArray, List.set_cons_zero, List.set_cons_succ]
            refine wpAnyH_ready (rs := [10]) (by kernel_rfl) (by simp) ?_
            refine AllReadyH.cons (o := { dst := some 91, op := Op.call { callee := Callee.value (Operand.func 17), args := #[Operand.tmp 90], argTypes := #[26] }, type := _, pos := _, after := _, guard := some (8, false) }) rfl (fun K' hK' => ?_) AllReadyH.nil
            go_simp
            go_at_call 17
            refine (tlist_any D11.out.s1.tbl).mono ?_
            rintro E w12 ⟨b12, c12, rfl, hL12, _, bb12⟩
            have D12 := Lib.hid (D11.out.below bb12)
            have HLs := Lib.hid hL12
            clear bb12 hL12 D11
            refine hK'.out _ _ (⟨(D12.out.s1.keep _ (List.mem_cons_of_mem _ (List.mem_cons_self ..))).1, (D12.out.s1.keep _ (List.mem_cons_self ..)).1, D12.out.rt.top⟩) (fun _ => ?_)
            clear hK' K'
            try simp only [Act.put, List.setIfInBounds_toArray, List.set_cons_zero, List.set_cons_succ]
            refine wpAnyH_ready (rs := [12]) (by kernel_rfl) (by simp) ?_
            refine AllReadyH.cons (o := { dst := some 93, op := Op.call { callee := Callee.value (Operand.func 16), args := #[Operand.tmp 91, Operand.tmp 92], argTypes := #[22, 36] }, type := _, pos := _, after := _, guard := some (8, false) }) rfl (fun K' hK' => ?_) AllReadyH.nil
            go_simp
            go_at_call 16
            refine (tsame_any HLs.out HT8.out).mono ?_
            rintro E w13 ⟨rfl, bb13⟩
            have D13 := Lib.hid (D12.out.below bb13)
            clear bb13 HLs D12
            refine hK'.out _ _ (⟨(D13.out.s1.keep _ (List.mem_cons_of_mem _ (List.mem_cons_self ..))).1, (D13.out.s1.keep _ (List.mem_cons_self ..)).1, D13.out.rt.top⟩) (fun _ => ?_)
            clear hK' K'
            try simp only [Act.put, List.setIfInBounds_toArray, List.set_cons_zero, List.set_cons_succ]
            refine wpAnyH_take (i := 13) (oi := { dst := some 94, op := Op.unOp UnOp.not 4 (Operand.tmp 93), type := _, pos := _, after := _, guard := some (8, false) }) (v := .bool false) rfl (by kernel_rfl) (by kernel_rfl) (by kernel_rfl) (fun _ _ _ h => h) (Or.inl ⟨by kernel_rfl, fun W hSW => by go_simp⟩) (⟨(D13.out.s1.keep _ (List.mem_cons_of_mem _ (List.mem_cons_self ..))).1, (D13.out.s1.keep _ (List.mem_cons_self ..)).1, D13.out.rt.top⟩) ?_
            try simp only [Act.put, List.setIfInBounds_toArray, List.set_cons_zero, List.set_cons_succ]
            refine wpAnyH_take (i := 14) (oi := { dst := some 95, op := Op.pick (Operand.tmp 89) (Operand.const (Value.bool true)) (Operand.tmp 94), type := _, pos := _, after := _, guard := none }) (v := .bool false) rfl (by kernel_rfl) (by kernel_rfl) (by kernel_rfl) (fun _ _ _ h => h) (Or.inl ⟨by kernel_rfl, fun W hSW => by go_simp⟩) (⟨(D13.out.s1.keep _ (List.mem_cons_of_mem _ (List.mem_cons_self ..))).1, (D13.out.s1.keep _ (List.mem_cons_self ..)).1, D13.out.rt.top⟩) ?_
            try simp only [Act.put, List.setIfInBounds_toArray, List.set_cons_zero, List.set_cons_succ]
            refine wpAnyH_done (by kernel_rfl) ?_ _
            go_wp2_with fail
            go_roundw
            case measure => simp [intOf] <;> omega
            case rel => exact ⟨k + 1, _, r9, c9, _, r10, c10, by omega, by go_num, Lib.hid D13.out.pop.pop⟩
          · obtain rfl : k = n := by omega
            have hkn : ¬ ((k : Int) < (k : Int)) := by omega
            have HT8 := Lib.hid D.out.s1.tbl.len
            have HLe := Lib.hid D.out.s1.sys.len
            have g34 := Tryd.guard34
            have e34 : ∀ w, (Op.equalIn 10000 34 (.agg (lsC (tLast T cl)).toArray) (.agg (lsC (tLast T cl)).toArray)).run Tryd.prog w = .ok true w := fun w => eq_lst_of (d := 9997) _ _ (by simp) w
            by_cases hc : 1 ≤ cl ∧ cl ≤ 8
            · obtain ⟨i, rfl⟩ : ∃ i : Nat, cl = (i : Int) + 1 := ⟨(cl - 1).toNat, by omega⟩
              have hi8 : i < 8 := by omega
              obtain ⟨p, hp, hlast⟩ := last_at HT8.out hi8
              have HLL : Hid (tLast T ((i : Int) + 1) = p) := Lib.hid (by rw [tLast, if_pos (isCl_iff.2 (by omega)), hlast])
              have hb : Below wr.heap.size wr (wr.alloc (.cells #[.int .u64 0, .int .i64 0, .string ⟨#[]⟩] 34)) := (Below.refl _ _).alloc (Nat.le_refl _) _
              have m0 : (wr.alloc (.cells #[.int .u64 0, .int .i64 0, .string ⟨#[]⟩] 34)).cell? ⟨t2, i * 3, none⟩ = some (.int .u64 (p.1 : Int)) := (D.out.rt.below hb).cell hp 0 _ rfl
              have m1 : (wr.alloc (.cells #[.int .u64 0, .int .i64 0, .string ⟨#[]⟩] 34)).cell? ⟨t2, i * 3 + 1, none⟩ = some (.int .i64 p.2.1) := (D.out.rt.below hb).cell hp 1 _ rfl
              have m2 : (wr.alloc (.cells #[.int .u64 0, .int .i64 0, .string ⟨#[]⟩] 34)).cell? ⟨t2, i * 3 + 2, none⟩ = some (.string p.2.2) := (D.out.rt.below hb).cell hp 2 _ rfl
              have hwj : IntKind.i64.wrap ((i : Int) + 1 - 1) = (i : Int) := by rw [IntKind.wrap_i64]; omega
              have hj0 : (0 : Int) ≤ (i : Int) := by omega
              have hj8 : (i : Int) < 8 := by omega
              have htn : ((i : Int)).toNat = i := by omega
              have hc1 : (1 : Int) ≤ (i : Int) + 1 := by omega
              have hc2 : (i : Int) + 1 ≤ 8 := by omega
              have D14 : Hid (Pd w t g t2 g2 [(wr.heap.size, (lsC (tLast T ((i : Int) + 1))).toArray, 34)] (wr.alloc (.cells #[.int .u64 (p.1 : Int), .int .i64 p.2.1, .string p.2.2] 34)) T r c xs T r2 c2 xs) := Lib.hid (by rw [HLL.out]; exact D.out.box #[.int .u64 (p.1 : Int), .int .i64 p.2.1, .string p.2.2] 34)
              clear D hp hlast hb hc
              go_wp2_with fail
              refine wp_region_any (by kernel_rfl) ?_
              change wpAny _ _ _ _ _ _ _ (World.drewN _ 1)
              refine held_gen (G := fun W => wpAny _ _ _ _ _ _ _ W) (fun W => Pd w t g t2 g2 [(wr.heap.size, (lsC (tLast T ((i : Int) + 1))).toArray, 34)] W T r c xs T r2 c2 xs) (D14.out.drewN 1) (fun w15 hW9 => ?_)
              have D15 := Lib.hid hW9
              clear hW9 D14
              refine wpAny_of_held (S := fun W => W.heap[wr.heap.size]? = some (.cells (lsC (tLast T ((i : Int) + 1))).toArray 34 (0, 0)) ∧ W.cell? ⟨g2, 0, none⟩ = some (.slice (slA r2) xs.length c2)) _ _ _ _ ?_
              refine wpAnyH_take (i := 0) (oi := { dst := some 107, op := Op.move (Operand.tmp 7), type := _, pos := _, after := _, guard := none }) (v := .pointer (some ⟨t, 0, none⟩)) rfl (by kernel_rfl) (by kernel_rfl) (by kernel_rfl) (fun _ _ _ h => h) (Or.inl ⟨by kernel_rfl, fun W hSW => by go_simp⟩) (⟨(D15.out.s1.keep _ (List.mem_cons_self ..)).1, D15.out.rl.cell⟩) ?_
              try simp only [Act.put, List.setIfInBounds_toArray, List.set_cons_zero, List.set_cons_succ]
              refine wpAnyH_take (i := 1) (oi := { dst := some 108, op := Op.move (Operand.tmp 2), type := _, pos := _, after := _, guard := none }) (v := .int .i64 ((i : Int) + 1)) rfl (by kernel_rfl) (by kernel_rfl) (by kernel_rfl) (fun _ _ _ h => h) (Or.inl ⟨by kernel_rfl, fun W hSW => by go_simp⟩) (⟨(D15.out.s1.keep _ (List.mem_cons_self ..)).1, D15.out.rl.cell⟩) ?_
              try simp only [Act.put, List.setIfInBounds_toArray, List.set_cons_zero, List.set_cons_succ]
              refine wpAnyH_take (i := 3) (oi := { dst := some 110, op := Op.load 34 (Operand.tmp 18), type := _, pos := _, after := _, guard := none }) (v := .agg (lsC (tLast T ((i : Int) + 1))).toArray) rfl (by kernel_rfl) (by kernel_rfl) (by kernel_rfl) (fun _ _ _ h => h) (Or.inl ⟨by kernel_rfl, fun W hSW => exec_load_mid 34 (.tmp 18) rfl wr.heap.size 0 rfl (lsC (tLast T ((i : Int) + 1))) _ (range_all hSW.1) Tryd.underlying34 rfl Tryd.is34⟩) (⟨(D15.out.s1.keep _ (List.mem_cons_self ..)).1, D15.out.rl.cell⟩) ?_
              try simp only [Act.put, List.setIfInBounds_toArray, List.set_cons_zero, List.set_cons_succ]
              refine wpAnyH_ready (rs := [2]) (by kernel_rfl) (by simp) ?_
              refine AllReadyH.cons (o := { dst := some 109, op := Op.call { callee := Callee.value (Operand.func 18), args := #[Operand.tmp 107, Operand.tmp 108], argTypes := #[26, 3] }, type := _, pos := _, after := _, guard := none }) rfl (fun K' hK' => ?_) AllReadyH.nil
              go_simp
              go_at_call 18
              refine (tlast_any D15.out.s1.tbl ((i : Int) + 1)).mono ?_
              rintro E w16 ⟨rfl, bb16⟩
              have D16 := Lib.hid (D15.out.below bb16)
              clear bb16 D15
              refine hK'.out _ _ (⟨(D16.out.s1.keep _ (List.mem_cons_self ..)).1, D16.out.rl.cell⟩) (fun _ => ?_)
              clear hK' K'
              try simp only [Act.put, List.setIfInBounds_toArray, List.set_cons_zero, List.set_cons_succ]
              refine wpAnyH_take (i := 4) (oi := { dst := some 111, op := Op.binOp BinOp.eql 34 (Operand.tmp 109) (Operand.tmp 110) 34, type := _, pos := _, after := _, guard := none }) (v := .bool true) rfl (by kernel_rfl) (by kernel_rfl) (by kernel_rfl) (fun _ _ _ h => h) (Or.inl ⟨by kernel_rfl, fun W hSW => by go_simp⟩) (⟨(D16.out.s1.keep _ (List.mem_cons_self ..)).1, D16.out.rl.cell⟩) ?_
              try simp only [Act.put, List.setIfInBounds_toArray, List.set_cons_zero, List.set_cons_succ]
              refine wpAnyH_take (i := 5) (oi := { dst := some 112, op := Op.move (Operand.tmp 111), type := _, pos := _, after := _, guard := none }) (v := .bool true) rfl (by kernel_rfl) (by kernel_rfl) (by kernel_rfl) (fun _ _ _ h => h) (Or.inl ⟨by kernel_rfl, fun W hSW => by go_simp⟩) (⟨(D16.out.s1.keep _ (List.mem_cons_self ..)).1, D16.out.rl.cell⟩) ?_
              try simp only [Act.put, List.setIfInBounds_toArray, List.set_cons_zero, List.set_cons_succ]
              refine wpAnyH_take (i := 6) (oi := { dst := some 113, op := Op.move (Operand.tmp 11), type := _, pos := _, after := _, guard := some (5, true) }) (v := .pointer (some ⟨g, 0, none⟩)) rfl (by kernel_rfl) (by kernel_rfl) (by kernel_rfl) (fun _ _ _ h => h) (Or.inl ⟨by kernel_rfl, fun W hSW => by go_simp⟩) (⟨(D16.out.s1.keep _ (List.mem_cons_self ..)).1, D16.out.rl.cell⟩) ?_
              try simp only [Act.put, List.setIfInBounds_toArray, List.set_cons_zero, List.set_cons_succ]
              refine wpAnyH_take (i := 8) (oi := { dst := some 115, op := Op.move (Operand.tmp 12), type := _, pos := _, after := _, guard := some (5, true) }) (v := .pointer (some ⟨g2, 0, none⟩)) rfl (by kernel_rfl) (by kernel_rfl) (by kernel_rfl) (fun _ _ _ h => h) (Or.inl ⟨by kernel_rfl, fun W hSW => by go_simp⟩) (⟨(D16.out.s1.keep _ (List.mem_cons_self ..)).1, D16.out.rl.cell⟩) ?_
              try simp only [Act.put, List.setIfInBounds_toArray, List.set_cons_zero, List.set_cons_succ]
              refine wpAnyH_take (i := 9) (oi := { dst := some 116, op := Op.nilCheck (Operand.tmp 115), type := _, pos := _, after := _, guard := some (5, true) }) (v := .pointer (some ⟨g2, 0, none⟩)) rfl (by kernel_rfl) (by kernel_rfl) (by kernel_rfl) (fun _ _ _ h => h) (Or.inl ⟨by kernel_rfl, fun W hSW => by go_simp⟩) (⟨(D16.out.s1.keep _ (List.mem_cons_self ..)).1, D16.out.rl.cell⟩) ?_
              try simp only [Act.put, List.setIfInBounds_toArray, List.set_cons_zero, List.set_cons_succ]
              refine wpAnyH_take (i := 10) (oi := { dst := some 117, op := Op.fieldAddr 45 (Operand.tmp 116) 0, type := _, pos := _, after := _, guard := some (5, true) }) (v := .pointer (some ⟨g2, 0, none⟩)) rfl (by kernel_rfl) (by kernel_rfl) (by kernel_rfl) (fun _ _ _ h => h) (Or.inl ⟨by kernel_rfl, fun W hSW => by go_simp⟩) (⟨(D16.out.s1.keep _ (List.mem_cons_self ..)).1, D16.out.rl.cell⟩) ?_
              try simp only [Act.put, List.setIfInBounds_toArray, List.set_cons_zero, List.set_cons_succ]
              refine wpAnyH_take (i := 11) (oi := { dst := some 118, op := Op.load 43 (Operand.tmp 117), type := _, pos := _, after := _, guard := some (5, true) }) (v := .slice (slA r2) xs.length c2) rfl (by kernel_rfl) (by kernel_rfl) (by kernel_rfl) (fun _ _ _ h => h) (Or.inl ⟨by kernel_rfl, fun W hSW => by have hc := hSW.2; go_simp⟩) (⟨(D16.out.s1.keep _ (List.mem_cons_self ..)).1, D16.out.rl.cell⟩) ?_
              try simp only [Act.put, List.setIfInBounds_toArray, List.set_cons_zero, List.set_cons_succ]
              refine wpAnyH_ready (rs := [7]) (by kernel_rfl) (by simp) ?_
              refine AllReadyH.cons (o := { dst := some 114, op := Op.call { callee := Callee.value (Operand.func 20), args := #[Operand.tmp 113], argTypes := #[40] }, type := _, pos := _, after := _, guard := some (5, true) }) rfl (fun K' hK' => ?_) AllReadyH.nil
              go_simp
              go_at_call 20
              refine (list_any D16.out.s1.sys.led (Nat.le_trans HLe.out (by decide))).mono ?_
              rintro E w17 ⟨r17, c17, rfl, hR17, _, bb17⟩
              have D17 := Lib.hid (D16.out.below bb17)
              have HI17 := Lib.hid hR17.its
              clear bb17 hR17 D16
              refine hK'.out _ _ (⟨(D17.out.s1.keep _ (List.mem_cons_self ..)).1, D17.out.rl.cell⟩) (fun _ => ?_)
              clear hK' K'
              try simp only [Act.put, List.setIfInBounds_toArray, List.set_cons_zero, List.set_cons_succ]
              refine wpAnyH_ready (rs := [12]) (by kernel_rfl) (by simp) ?_
              refine AllReadyH.cons (o := { dst := some 119, op := Op.call { callee := Callee.value (Operand.func 19), args := #[Operand.tmp 114, Operand.tmp 118], argTypes := #[43, 43] }, type := _, pos := _, after := _, guard := some (5, true) }) rfl (fun K' hK' => ?_) AllReadyH.nil
              go_simp
              go_at_call 19
              refine (HSame.out _ _ _ _ _ xs xs HI17.out D17.out.rl.row.its (Nat.le_trans HLe.out (by decide)) (Nat.le_trans HLe.out (by decide))).mono ?_
              rintro E w18 ⟨rfl, bb18⟩
              rw [decide_eq_true rfl]
              have D18 := Lib.hid (D17.out.below bb18)
              clear bb18 HI17 D17
              refine hK'.out _ _ (⟨(D18.out.s1.keep _ (List.mem_cons_self ..)).1, D18.out.rl.cell⟩) (fun _ => ?_)
              clear hK' K'
              try simp only [Act.put, List.setIfInBounds_toArray, List.set_cons_zero, List.set_cons_succ]
              refine wpAnyH_take (i := 13) (oi := { dst := some 120, op := Op.pick (Operand.tmp 112) (Operand.tmp 119) (Operand.const (Value.bool false)), type := _, pos := _, after := _, guard := none }) (v := .bool true) rfl (by kernel_rfl) (by kernel_rfl) (by kernel_rfl) (fun _ _ _ h => h) (Or.inl ⟨by kernel_rfl, fun W hSW => by go_simp⟩) (⟨(D18.out.s1.keep _ (List.mem_cons_self ..)).1, D18.out.rl.cell⟩) ?_
              try simp only [Act.put, List.setIfInBounds_toArray, List.set_cons_zero, List.set_cons_succ]
              refine wpAnyH_take (i := 14) (oi := { dst := some 121, op := Op.move (Operand.tmp 120), type := _, pos := _, after := _, guard := none }) (v := .bool true) rfl (by kernel_rfl) (by kernel_rfl) (by kernel_rfl) (fun _ _ _ h => h) (Or.inl ⟨by kernel_rfl, fun W hSW => by go_simp⟩) (⟨(D18.out.s1.keep _ (List.mem_cons_self ..)).1, D18.out.rl.cell⟩) ?_
              try simp only [Act.put, List.setIfInBounds_toArray, List.set_cons_zero, List.set_cons_succ]
              refine wpAnyH_ready (rs := [15]) (by kernel_rfl) (by simp) ?_
              refine AllReadyH.cons (o := { dst := some 122, op := Op.call { callee := Callee.value (Operand.func 9), args := #[], argTypes := #[] }, type := _, pos := _, after := _, guard := some (14, true) }) rfl (fun K' hK' => ?_) AllReadyH.nil
              go_simp
              go_at_call 9
              refine (HW.out _ D18.out.s1.bel).mono ?_
              rintro E w19 ⟨rfl, bb19⟩
              have D19 := Lib.hid (D18.out.below bb19)
              clear bb19 D18
              refine hK'.out _ _ (⟨(D19.out.s1.keep _ (List.mem_cons_self ..)).1, D19.out.rl.cell⟩) (fun _ => ?_)
              clear hK' K'
              try simp only [Act.put, List.setIfInBounds_toArray, List.set_cons_zero, List.set_cons_succ]
              refine wpAnyH_take (i := 16) (oi := { dst := some 123, op := Op.pick (Operand.tmp 121) (Operand.tmp 122) (Operand.const (Value.bool false)), type := _, pos := _, after := _, guard := none }) (v := .bool true) rfl (by kernel_rfl) (by kernel_rfl) (by kernel_rfl) (fun _ _ _ h => h) (Or.inl ⟨by kernel_rfl, fun W hSW => by go_simp⟩) (⟨(D19.out.s1.keep _ (List.mem_cons_self ..)).1, D19.out.rl.cell⟩) ?_
              try simp only [Act.put, List.setIfInBounds_toArray, List.set_cons_zero, List.set_cons_succ]
              refine wpAnyH_take (i := 17) (oi := { dst := some 6, op := Op.assign (Operand.tmp 123), type := _, pos := _, after := _, guard := none }) (v := .bool true) rfl (by kernel_rfl) (by kernel_rfl) (by kernel_rfl) (fun _ _ _ h => h) (Or.inl ⟨by kernel_rfl, fun W hSW => by go_simp⟩) (⟨(D19.out.s1.keep _ (List.mem_cons_self ..)).1, D19.out.rl.cell⟩) ?_
              try simp only [Act.put, List.setIfInBounds_toArray, List.set_cons_zero, List.set_cons_succ]
              refine wpAnyH_done (by kernel_rfl) ?_ _
              go_wp2_with fail
              go_ret
              exact ⟨rfl, D19.out.s1.bel⟩
            · have HLL : Hid (tLast T cl = zL) := Lib.hid (by rw [tLast, if_neg (by rw [isCl_iff]; exact hc)])
              have D14 : Hid (Pd w t g t2 g2 [(wr.heap.size, (lsC (tLast T cl)).toArray, 34)] (wr.alloc (.cells #[.int .u64 0, .int .i64 0, .string ⟨#[]⟩] 34)) T r c xs T r2 c2 xs) := Lib.hid (by rw [HLL.out]; exact D.out.box #[.int .u64 0, .int .i64 0, .string ⟨#[]⟩] 34)
              clear D
              by_cases hc1 : 1 ≤ cl
              · have hc2 : ¬ (cl ≤ 8) := fun h => hc ⟨hc1, h⟩
                have hc3 : 8 < cl := by omega
                clear hc
                go_wp2_with fail
                refine wp_region_any (by kernel_rfl) ?_
                change wpAny _ _ _ _ _ _ _ (World.drewN _ 1)
                refine held_gen (G := fun W => wpAny _ _ _ _ _ _ _ W) (fun W => Pd w t g t2 g2 [(wr.heap.size, (lsC (tLast T cl)).toArray, 34)] W T r c xs T r2 c2 xs) (D14.out.drewN 1) (fun w15 hW9 => ?_)
                have D15 := Lib.hid hW9
                clear hW9 D14
                refine wpAny_of_held (S := fun W => W.heap[wr.heap.size]? = some (.cells (lsC (tLast T cl)).toArray 34 (0, 0)) ∧ W.cell? ⟨g2, 0, none⟩ = some (.slice (slA r2) xs.length c2)) _ _ _ _ ?_
                refine wpAnyH_take (i := 0) (oi := { dst := some 107, op := Op.move (Operand.tmp 7), type := _, pos := _, after := _, guard := none }) (v := .pointer (some ⟨t, 0, none⟩)) rfl (by kernel_rfl) (by kernel_rfl) (by kernel_rfl) (fun _ _ _ h => h) (Or.inl ⟨by kernel_rfl, fun W hSW => by go_simp⟩) (⟨(D15.out.s1.keep _ (List.mem_cons_self ..)).1, D15.out.rl.cell⟩) ?_
                try simp only [Act.put, List.setIfInBounds_toArray, List.set_cons_zero, List.set_cons_succ]
                refine wpAnyH_take (i := 1) (oi := { dst := some 108, op := Op.move (Operand.tmp 2), type := _, pos := _, after := _, guard := none }) (v := .int .i64 cl) rfl (by kernel_rfl) (by kernel_rfl) (by kernel_rfl) (fun _ _ _ h => h) (Or.inl ⟨by kernel_rfl, fun W hSW => by go_simp⟩) (⟨(D15.out.s1.keep _ (List.mem_cons_self ..)).1, D15.out.rl.cell⟩) ?_
                try simp only [Act.put, List.setIfInBounds_toArray, List.set_cons_zero, List.set_cons_succ]
                refine wpAnyH_take (i := 3) (oi := { dst := some 110, op := Op.load 34 (Operand.tmp 18), type := _, pos := _, after := _, guard := none }) (v := .agg (lsC (tLast T cl)).toArray) rfl (by kernel_rfl) (by kernel_rfl) (by kernel_rfl) (fun _ _ _ h => h) (Or.inl ⟨by kernel_rfl, fun W hSW => exec_load_mid 34 (.tmp 18) rfl wr.heap.size 0 rfl (lsC (tLast T cl)) _ (range_all hSW.1) Tryd.underlying34 rfl Tryd.is34⟩) (⟨(D15.out.s1.keep _ (List.mem_cons_self ..)).1, D15.out.rl.cell⟩) ?_
                try simp only [Act.put, List.setIfInBounds_toArray, List.set_cons_zero, List.set_cons_succ]
                refine wpAnyH_ready (rs := [2]) (by kernel_rfl) (by simp) ?_
                refine AllReadyH.cons (o := { dst := some 109, op := Op.call { callee := Callee.value (Operand.func 18), args := #[Operand.tmp 107, Operand.tmp 108], argTypes := #[26, 3] }, type := _, pos := _, after := _, guard := none }) rfl (fun K' hK' => ?_) AllReadyH.nil
                go_simp
                go_at_call 18
                refine (tlast_any D15.out.s1.tbl cl).mono ?_
                rintro E w16 ⟨rfl, bb16⟩
                have D16 := Lib.hid (D15.out.below bb16)
                clear bb16 D15
                refine hK'.out _ _ (⟨(D16.out.s1.keep _ (List.mem_cons_self ..)).1, D16.out.rl.cell⟩) (fun _ => ?_)
                clear hK' K'
                try simp only [Act.put, List.setIfInBounds_toArray, List.set_cons_zero, List.set_cons_succ]
                refine wpAnyH_take (i := 4) (oi := { dst := some 111, op := Op.binOp BinOp.eql 34 (Operand.tmp 109) (Operand.tmp 110) 34, type := _, pos := _, after := _, guard := none }) (v := .bool true) rfl (by kernel_rfl) (by kernel_rfl) (by kernel_rfl) (fun _ _ _ h => h) (Or.inl ⟨by kernel_rfl, fun W hSW => by go_simp⟩) (⟨(D16.out.s1.keep _ (List.mem_cons_self ..)).1, D16.out.rl.cell⟩) ?_
                try simp only [Act.put, List.setIfInBounds_toArray, List.set_cons_zero, List.set_cons_succ]
                refine wpAnyH_take (i := 5) (oi := { dst := some 112, op := Op.move (Operand.tmp 111), type := _, pos := _, after := _, guard := none }) (v := .bool true) rfl (by kernel_rfl) (by kernel_rfl) (by kernel_rfl) (fun _ _ _ h => h) (Or.inl ⟨by kernel_rfl, fun W hSW => by go_simp⟩) (⟨(D16.out.s1.keep _ (List.mem_cons_self ..)).1, D16.out.rl.cell⟩) ?_
                try simp only [Act.put, List.setIfInBounds_toArray, List.set_cons_zero, List.set_cons_succ]
                refine wpAnyH_take (i := 6) (oi := { dst := some 113, op := Op.move (Operand.tmp 11), type := _, pos := _, after := _, guard := some (5, true) }) (v := .pointer (some ⟨g, 0, none⟩)) rfl (by kernel_rfl) (by kernel_rfl) (by kernel_rfl) (fun _ _ _ h => h) (Or.inl ⟨by kernel_rfl, fun W hSW => by go_simp⟩) (⟨(D16.out.s1.keep _ (List.mem_cons_self ..)).1, D16.out.rl.cell⟩) ?_
                try simp only [Act.put, List.setIfInBounds_toArray, List.set_cons_zero, List.set_cons_succ]
                refine wpAnyH_take (i := 8) (oi := { dst := some 115, op := Op.move (Operand.tmp 12), type := _, pos := _, after := _, guard := some (5, true) }) (v := .pointer (some ⟨g2, 0, none⟩)) rfl (by kernel_rfl) (by kernel_rfl) (by kernel_rfl) (fun _ _ _ h => h) (Or.inl ⟨by kernel_rfl, fun W hSW => by go_simp⟩) (⟨(D16.out.s1.keep _ (List.mem_cons_self ..)).1, D16.out.rl.cell⟩) ?_
                try simp only [Act.put, List.setIfInBounds_toArray, List.set_cons_zero, List.set_cons_succ]
                refine wpAnyH_take (i := 9) (oi := { dst := some 116, op := Op.nilCheck (Operand.tmp 115), type := _, pos := _, after := _, guard := some (5, true) }) (v := .pointer (some ⟨g2, 0, none⟩)) rfl (by kernel_rfl) (by kernel_rfl) (by kernel_rfl) (fun _ _ _ h => h) (Or.inl ⟨by kernel_rfl, fun W hSW => by go_simp⟩) (⟨(D16.out.s1.keep _ (List.mem_cons_self ..)).1, D16.out.rl.cell⟩) ?_
                try simp only [Act.put, List.setIfInBounds_toArray, List.set_cons_zero, List.set_cons_succ]
                refine wpAnyH_take (i := 10) (oi := { dst := some 117, op := Op.fieldAddr 45 (Operand.tmp 116) 0, type := _, pos := _, after := _, guard := some (5, true) }) (v := .pointer (some ⟨g2, 0, none⟩)) rfl (by kernel_rfl) (by kernel_rfl) (by kernel_rfl) (fun _ _ _ h => h) (Or.inl ⟨by kernel_rfl, fun W hSW => by go_simp⟩) (⟨(D16.out.s1.keep _ (List.mem_cons_self ..)).1, D16.out.rl.cell⟩) ?_
                try simp only [Act.put, List.setIfInBounds_toArray, List.set_cons_zero, List.set_cons_succ]
                refine wpAnyH_take (i := 11) (oi := { dst := some 118, op := Op.load 43 (Operand.tmp 117), type := _, pos := _, after := _, guard := some (5, true) }) (v := .slice (slA r2) xs.length c2) rfl (by kernel_rfl) (by kernel_rfl) (by kernel_rfl) (fun _ _ _ h => h) (Or.inl ⟨by kernel_rfl, fun W hSW => by have hc := hSW.2; go_simp⟩) (⟨(D16.out.s1.keep _ (List.mem_cons_self ..)).1, D16.out.rl.cell⟩) ?_
                try simp only [Act.put, List.setIfInBounds_toArray, List.set_cons_zero, List.set_cons_succ]
                refine wpAnyH_ready (rs := [7]) (by kernel_rfl) (by simp) ?_
                refine AllReadyH.cons (o := { dst := some 114, op := Op.call { callee := Callee.value (Operand.func 20), args := #[Operand.tmp 113], argTypes := #[40] }, type := _, pos := _, after := _, guard := some (5, true) }) rfl (fun K' hK' => ?_) AllReadyH.nil
                go_simp
                go_at_call 20
                refine (list_any D16.out.s1.sys.led (Nat.le_trans HLe.out (by decide))).mono ?_
                rintro E w17 ⟨r17, c17, rfl, hR17, _, bb17⟩
                have D17 := Lib.hid (D16.out.below bb17)
                have HI17 := Lib.hid hR17.its
                clear bb17 hR17 D16
                refine hK'.out _ _ (⟨(D17.out.s1.keep _ (List.mem_cons_self ..)).1, D17.out.rl.cell⟩) (fun _ => ?_)
                clear hK' K'
                try simp only [Act.put, List.setIfInBounds_toArray, List.set_cons_zero, List.set_cons_succ]
                refine wpAnyH_ready (rs := [12]) (by kernel_rfl) (by simp) ?_
                refine AllReadyH.cons (o := { dst := some 119, op := Op.call { callee := Callee.value (Operand.func 19), args := #[Operand.tmp 114, Operand.tmp 118], argTypes := #[43, 43] }, type := _, pos := _, after := _, guard := some (5, true) }) rfl (fun K' hK' => ?_) AllReadyH.nil
                go_simp
                go_at_call 19
                refine (HSame.out _ _ _ _ _ xs xs HI17.out D17.out.rl.row.its (Nat.le_trans HLe.out (by decide)) (Nat.le_trans HLe.out (by decide))).mono ?_
                rintro E w18 ⟨rfl, bb18⟩
                rw [decide_eq_true rfl]
                have D18 := Lib.hid (D17.out.below bb18)
                clear bb18 HI17 D17
                refine hK'.out _ _ (⟨(D18.out.s1.keep _ (List.mem_cons_self ..)).1, D18.out.rl.cell⟩) (fun _ => ?_)
                clear hK' K'
                try simp only [Act.put, List.setIfInBounds_toArray, List.set_cons_zero, List.set_cons_succ]
                refine wpAnyH_take (i := 13) (oi := { dst := some 120, op := Op.pick (Operand.tmp 112) (Operand.tmp 119) (Operand.const (Value.bool false)), type := _, pos := _, after := _, guard := none }) (v := .bool true) rfl (by kernel_rfl) (by kernel_rfl) (by kernel_rfl) (fun _ _ _ h => h) (Or.inl ⟨by kernel_rfl, fun W hSW => by go_simp⟩) (⟨(D18.out.s1.keep _ (List.mem_cons_self ..)).1, D18.out.rl.cell⟩) ?_
                try simp only [Act.put, List.setIfInBounds_toArray, List.set_cons_zero, List.set_cons_succ]
                refine wpAnyH_take (i := 14) (oi := { dst := some 121, op := Op.move (Operand.tmp 120), type := _, pos := _, after := _, guard := none }) (v := .bool true) rfl (by kernel_rfl) (by kernel_rfl) (by kernel_rfl) (fun _ _ _ h => h) (Or.inl ⟨by kernel_rfl, fun W hSW => by go_simp⟩) (⟨(D18.out.s1.keep _ (List.mem_cons_self ..)).1, D18.out.rl.cell⟩) ?_
                try simp only [Act.put, List.setIfInBounds_toArray, List.set_cons_zero, List.set_cons_succ]
                refine wpAnyH_ready (rs := [15]) (by kernel_rfl) (by simp) ?_
                refine AllReadyH.cons (o := { dst := some 122, op := Op.call { callee := Callee.value (Operand.func 9), args := #[], argTypes := #[] }, type := _, pos := _, after := _, guard := some (14, true) }) rfl (fun K' hK' => ?_) AllReadyH.nil
                go_simp
                go_at_call 9
                refine (HW.out _ D18.out.s1.bel).mono ?_
                rintro E w19 ⟨rfl, bb19⟩
                have D19 := Lib.hid (D18.out.below bb19)
                clear bb19 D18
                refine hK'.out _ _ (⟨(D19.out.s1.keep _ (List.mem_cons_self ..)).1, D19.out.rl.cell⟩) (fun _ => ?_)
                clear hK' K'
                try simp only [Act.put, List.setIfInBounds_toArray, List.set_cons_zero, List.set_cons_succ]
                refine wpAnyH_take (i := 16) (oi := { dst := some 123, op := Op.pick (Operand.tmp 121) (Operand.tmp 122) (Operand.const (Value.bool false)), type := _, pos := _, after := _, guard := none }) (v := .bool true) rfl (by kernel_rfl) (by kernel_rfl) (by kernel_rfl) (fun _ _ _ h => h) (Or.inl ⟨by kernel_rfl, fun W hSW => by go_simp⟩) (⟨(D19.out.s1.keep _ (List.mem_cons_self ..)).1, D19.out.rl.cell⟩) ?_
                try simp only [Act.put, List.setIfInBounds_toArray, List.set_cons_zero, List.set_cons_succ]
                refine wpAnyH_take (i := 17) (oi := { dst := some 6, op := Op.assign (Operand.tmp 123), type := _, pos := _, after := _, guard := none }) (v := .bool true) rfl (by kernel_rfl) (by kernel_rfl) (by kernel_rfl) (fun _ _ _ h => h) (Or.inl ⟨by kernel_rfl, fun W hSW => by go_simp⟩) (⟨(D19.out.s1.keep _ (List.mem_cons_self ..)).1, D19.out.rl.cell⟩) ?_
                try simp only [Act.put, List.setIfInBounds_toArray, List.set_cons_zero, List.set_cons_succ]
                refine wpAnyH_done (by kernel_rfl) ?_ _
                go_wp2_with fail
                go_ret
                exact ⟨rfl, D19.out.s1.bel⟩
              · have hc3 : cl < 1 := by omega
                clear hc
                go_wp2_with fail
                refine wp_region_any (by kernel_rfl) ?_
                change wpAny _ _ _ _ _ _ _ (World.drewN _ 1)
                refine held_gen (G := fun W => wpAny _ _ _ _ _ _ _ W) (fun W => Pd w t g t2 g2 [(wr.heap.size, (lsC (tLast T cl)).toArray, 34)] W T r c xs T r2 c2 xs) (D14.out.drewN 1) (fun w15 hW9 => ?_)
                have D15 := Lib.hid hW9
                clear hW9 D14
                refine wpAny_of_held (S := fun W => W.heap[wr.heap.size]? = some (.cells (lsC (tLast T cl)).toArray 34 (0, 0)) ∧ W.cell? ⟨g2, 0, none⟩ = some (.slice (slA r2) xs.length c2)) _ _ _ _ ?_
                refine wpAnyH_take (i := 0) (oi := { dst := some 107, op := Op.move (Operand.tmp 7), type := _, pos := _, after := _, guard := none }) (v := .pointer (some ⟨t, 0, none⟩)) rfl (by kernel_rfl) (by kernel_rfl) (by kernel_rfl) (fun _ _ _ h => h) (Or.inl ⟨by kernel_rfl, fun W hSW => by go_simp⟩) (⟨(D15.out.s1.keep _ (List.mem_cons_self ..)).1, D15.out.rl.cell⟩) ?_
                try simp only [Act.put, List.setIfInBounds_toArray, List.set_cons_zero, List.set_cons_succ]
                refine wpAnyH_take (i := 1) (oi := { dst := some 108, op := Op.move (Operand.tmp 2), type := _, pos := _, after := _, guard := none }) (v := .int .i64 cl) rfl (by kernel_rfl) (by kernel_rfl) (by kernel_rfl) (fun _ _ _ h => h) (Or.inl ⟨by kernel_rfl, fun W hSW => by go_simp⟩) (⟨(D15.out.s1.keep _ (List.mem_cons_self ..)).1, D15.out.rl.cell⟩) ?_
                try simp only [Act.put, List.setIfInBounds_toArray, List.set_cons_zero, List.set_cons_succ]
                refine wpAnyH_take (i := 3) (oi := { dst := some 110, op := Op.load 34 (Operand.tmp 18), type := _, pos := _, after := _, guard := none }) (v := .agg (lsC (tLast T cl)).toArray) rfl (by kernel_rfl) (by kernel_rfl) (by kernel_rfl) (fun _ _ _ h => h) (Or.inl ⟨by kernel_rfl, fun W hSW => exec_load_mid 34 (.tmp 18) rfl wr.heap.size 0 rfl (lsC (tLast T cl)) _ (range_all hSW.1) Tryd.underlying34 rfl Tryd.is34⟩) (⟨(D15.out.s1.keep _ (List.mem_cons_self ..)).1, D15.out.rl.cell⟩) ?_
                try simp only [Act.put, List.setIfInBounds_toArray, List.set_cons_zero, List.set_cons_succ]
                refine wpAnyH_ready (rs := [2]) (by kernel_rfl) (by simp) ?_
                refine AllReadyH.cons (o := { dst := some 109, op := Op.call { callee := Callee.value (Operand.func 18), args := #[Operand.tmp 107, Operand.tmp 108], argTypes := #[26, 3] }, type := _, pos := _, after := _, guard := none }) rfl (fun K' hK' => ?_) AllReadyH.nil
                go_simp
                go_at_call 18
                refine (tlast_any D15.out.s1.tbl cl).mono ?_
                rintro E w16 ⟨rfl, bb16⟩
                have D16 := Lib.hid (D15.out.below bb16)
                clear bb16 D15
                refine hK'.out _ _ (⟨(D16.out.s1.keep _ (List.mem_cons_self ..)).1, D16.out.rl.cell⟩) (fun _ => ?_)
                clear hK' K'
                try simp only [Act.put, List.setIfInBounds_toArray, List.set_cons_zero, List.set_cons_succ]
                refine wpAnyH_take (i := 4) (oi := { dst := some 111, op := Op.binOp BinOp.eql 34 (Operand.tmp 109) (Operand.tmp 110) 34, type := _, pos := _, after := _, guard := none }) (v := .bool true) rfl (by kernel_rfl) (by kernel_rfl) (by kernel_rfl) (fun _ _ _ h => h) (Or.inl ⟨by kernel_rfl, fun W hSW => by go_simp⟩) (⟨(D16.out.s1.keep _ (List.mem_cons_self ..)).1, D16.out.rl.cell⟩) ?_
                try simp only [Act.put, List.setIfInBounds_toArray, List.set_cons_zero, List.set_cons_succ]
                refine wpAnyH_take (i := 5) (oi := { dst := some 112, op := Op.move (Operand.tmp 111), type := _, pos := _, after := _, guard := none }) (v := .bool true) rfl (by kernel_rfl) (by kernel_rfl) (by kernel_rfl) (fun _ _ _ h => h) (Or.inl ⟨by kernel_rfl, fun W hSW => by go_simp⟩) (⟨(D16.out.s1.keep _ (List.mem_cons_self ..)).1, D16.out.rl.cell⟩) ?_
                try simp only [Act.put, List.setIfInBounds_toArray, List.set_cons_zero, List.set_cons_succ]
                refine wpAnyH_take (i := 6) (oi := { dst := some 113, op := Op.move (Operand.tmp 11), type := _, pos := _, after := _, guard := some (5, true) }) (v := .pointer (some ⟨g, 0, none⟩)) rfl (by kernel_rfl) (by kernel_rfl) (by kernel_rfl) (fun _ _ _ h => h) (Or.inl ⟨by kernel_rfl, fun W hSW => by go_simp⟩) (⟨(D16.out.s1.keep _ (List.mem_cons_self ..)).1, D16.out.rl.cell⟩) ?_
                try simp only [Act.put, List.setIfInBounds_toArray, List.set_cons_zero, List.set_cons_succ]
                refine wpAnyH_take (i := 8) (oi := { dst := some 115, op := Op.move (Operand.tmp 12), type := _, pos := _, after := _, guard := some (5, true) }) (v := .pointer (some ⟨g2, 0, none⟩)) rfl (by kernel_rfl) (by kernel_rfl) (by kernel_rfl) (fun _ _ _ h => h) (Or.inl ⟨by kernel_rfl, fun W hSW => by go_simp⟩) (⟨(D16.out.s1.keep _ (List.mem_cons_self ..)).1, D16.out.rl.cell⟩) ?_
                try simp only [Act.put, List.setIfInBounds_toArray, List.set_cons_zero, List.set_cons_succ]
                refine wpAnyH_take (i := 9) (oi := { dst := some 116, op := Op.nilCheck (Operand.tmp 115), type := _, pos := _, after := _, guard := some (5, true) }) (v := .pointer (some ⟨g2, 0, none⟩)) rfl (by kernel_rfl) (by kernel_rfl) (by kernel_rfl) (fun _ _ _ h => h) (Or.inl ⟨by kernel_rfl, fun W hSW => by go_simp⟩) (⟨(D16.out.s1.keep _ (List.mem_cons_self ..)).1, D16.out.rl.cell⟩) ?_
                try simp only [Act.put, List.setIfInBounds_toArray, List.set_cons_zero, List.set_cons_succ]
                refine wpAnyH_take (i := 10) (oi := { dst := some 117, op := Op.fieldAddr 45 (Operand.tmp 116) 0, type := _, pos := _, after := _, guard := some (5, true) }) (v := .pointer (some ⟨g2, 0, none⟩)) rfl (by kernel_rfl) (by kernel_rfl) (by kernel_rfl) (fun _ _ _ h => h) (Or.inl ⟨by kernel_rfl, fun W hSW => by go_simp⟩) (⟨(D16.out.s1.keep _ (List.mem_cons_self ..)).1, D16.out.rl.cell⟩) ?_
                try simp only [Act.put, List.setIfInBounds_toArray, List.set_cons_zero, List.set_cons_succ]
                refine wpAnyH_take (i := 11) (oi := { dst := some 118, op := Op.load 43 (Operand.tmp 117), type := _, pos := _, after := _, guard := some (5, true) }) (v := .slice (slA r2) xs.length c2) rfl (by kernel_rfl) (by kernel_rfl) (by kernel_rfl) (fun _ _ _ h => h) (Or.inl ⟨by kernel_rfl, fun W hSW => by have hc := hSW.2; go_simp⟩) (⟨(D16.out.s1.keep _ (List.mem_cons_self ..)).1, D16.out.rl.cell⟩) ?_
                try simp only [Act.put, List.setIfInBounds_toArray, List.set_cons_zero, List.set_cons_succ]
                refine wpAnyH_ready (rs := [7]) (by kernel_rfl) (by simp) ?_
                refine AllReadyH.cons (o := { dst := some 114, op := Op.call { callee := Callee.value (Operand.func 20), args := #[Operand.tmp 113], argTypes := #[40] }, type := _, pos := _, after := _, guard := some (5, true) }) rfl (fun K' hK' => ?_) AllReadyH.nil
                go_simp
                go_at_call 20
                refine (list_any D16.out.s1.sys.led (Nat.le_trans HLe.out (by decide))).mono ?_
                rintro E w17 ⟨r17, c17, rfl, hR17, _, bb17⟩
                have D17 := Lib.hid (D16.out.below bb17)
                have HI17 := Lib.hid hR17.its
                clear bb17 hR17 D16
                refine hK'.out _ _ (⟨(D17.out.s1.keep _ (List.mem_cons_self ..)).1, D17.out.rl.cell⟩) (fun _ => ?_)
                clear hK' K'
                try simp only [Act.put, List.setIfInBounds_toArray, List.set_cons_zero, List.set_cons_succ]
                refine wpAnyH_ready (rs := [12]) (by kernel_rfl) (by simp) ?_
                refine AllReadyH.cons (o := { dst := some 119, op := Op.call { callee := Callee.value (Operand.func 19), args := #[Operand.tmp 114, Operand.tmp 118], argTypes := #[43, 43] }, type := _, pos := _, after := _, guard := some (5, true) }) rfl (fun K' hK' => ?_) AllReadyH.nil
                go_simp
                go_at_call 19
                refine (HSame.out _ _ _ _ _ xs xs HI17.out D17.out.rl.row.its (Nat.le_trans HLe.out (by decide)) (Nat.le_trans HLe.out (by decide))).mono ?_
                rintro E w18 ⟨rfl, bb18⟩
                rw [decide_eq_true rfl]
                have D18 := Lib.hid (D17.out.below bb18)
                clear bb18 HI17 D17
                refine hK'.out _ _ (⟨(D18.out.s1.keep _ (List.mem_cons_self ..)).1, D18.out.rl.cell⟩) (fun _ => ?_)
                clear hK' K'
                try simp only [Act.put, List.setIfInBounds_toArray, List.set_cons_zero, List.set_cons_succ]
                refine wpAnyH_take (i := 13) (oi := { dst := some 120, op := Op.pick (Operand.tmp 112) (Operand.tmp 119) (Operand.const (Value.bool false)), type := _, pos := _, after := _, guard := none }) (v := .bool true) rfl (by kernel_rfl) (by kernel_rfl) (by kernel_rfl) (fun _ _ _ h => h) (Or.inl ⟨by kernel_rfl, fun W hSW => by go_simp⟩) (⟨(D18.out.s1.keep _ (List.mem_cons_self ..)).1, D18.out.rl.cell⟩) ?_
                try simp only [Act.put, List.setIfInBounds_toArray, List.set_cons_zero, List.set_cons_succ]
                refine wpAnyH_take (i := 14) (oi := { dst := some 121, op := Op.move (Operand.tmp 120), type := _, pos := _, after := _, guard := none }) (v := .bool true) rfl (by kernel_rfl) (by kernel_rfl) (by kernel_rfl) (fun _ _ _ h => h) (Or.inl ⟨by kernel_rfl, fun W hSW => by go_simp⟩) (⟨(D18.out.s1.keep _ (List.mem_cons_self ..)).1, D18.out.rl.cell⟩) ?_
                try simp only [Act.put, List.setIfInBounds_toArray, List.set_cons_zero, List.set_cons_succ]
                refine wpAnyH_ready (rs := [15]) (by kernel_rfl) (by simp) ?_
                refine AllReadyH.cons (o := { dst := some 122, op := Op.call { callee := Callee.value (Operand.func 9), args := #[], argTypes := #[] }, type := _, pos := _, after := _, guard := some (14, true) }) rfl (fun K' hK' => ?_) AllReadyH.nil
                go_simp
                go_at_call 9
                refine (HW.out _ D18.out.s1.bel).mono ?_
                rintro E w19 ⟨rfl, bb19⟩
                have D19 := Lib.hid (D18.out.below bb19)
                clear bb19 D18
                refine hK'.out _ _ (⟨(D19.out.s1.keep _ (List.mem_cons_self ..)).1, D19.out.rl.cell⟩) (fun _ => ?_)
                clear hK' K'
                try simp only [Act.put, List.setIfInBounds_toArray, List.set_cons_zero, List.set_cons_succ]
                refine wpAnyH_take (i := 16) (oi := { dst := some 123, op := Op.pick (Operand.tmp 121) (Operand.tmp 122) (Operand.const (Value.bool false)), type := _, pos := _, after := _, guard := none }) (v := .bool true) rfl (by kernel_rfl) (by kernel_rfl) (by kernel_rfl) (fun _ _ _ h => h) (Or.inl ⟨by kernel_rfl, fun W hSW => by go_simp⟩) (⟨(D19.out.s1.keep _ (List.mem_cons_self ..)).1, D19.out.rl.cell⟩) ?_
                try simp only [Act.put, List.setIfInBounds_toArray, List.set_cons_zero, List.set_cons_succ]
                refine wpAnyH_take (i := 17) (oi := { dst := some 6, op := Op.assign (Operand.tmp 123), type := _, pos := _, after := _, guard := none }) (v := .bool true) rfl (by kernel_rfl) (by kernel_rfl) (by kernel_rfl) (fun _ _ _ h => h) (Or.inl ⟨by kernel_rfl, fun W hSW => by go_simp⟩) (⟨(D19.out.s1.keep _ (List.mem_cons_self ..)).1, D19.out.rl.cell⟩) ?_
                try simp only [Act.put, List.setIfInBounds_toArray, List.set_cons_zero, List.set_cons_succ]
                refine wpAnyH_done (by kernel_rfl) ?_ _
                go_wp2_with fail
                go_ret
                exact ⟨rfl, D19.out.s1.bel⟩
    · have hl1 : ((n0 : Int) > 20) := by omega
      have hl2 : (20 < (n0 : Int)) := by omega
      clear HRo HTo hz36
      go_wp2_with (go_at_call 9; refine (HW.out _ B1.out).mono ?_; rintro E w2 ⟨rfl, b2⟩)
      go_ret
      exact ⟨rfl, B1.out.trans (b2.mono B1.out.size)⟩
end Go.Proofs.YtflenghnmflenaaDoor
