/-
  What is proved: the walk of ShaApart for whatever comes in. Conditions as stated. Written by wip/tools/gen-apart.py.
-/
import Derived.Test.YtflbhicjaaeegaaDoorAF
import Derived.Test.YtflbhicjaaeegaaDoorN
namespace Go.Proofs.YtflbhicjaaeegaaDoor
open Go.RowKit

set_option maxHeartbeats 20000000 in
set_option maxRecDepth 100000 in
theorem shaApart_by (sm : List UInt8 → List UInt8) (hsm : ∀ xs, (sm xs).length = 32) (xs : List (Option Addr × Nat × List UInt8)) (A : Option Addr) (n c : Nat) (ts : List UInt8) (T : Option Addr) (nt ct : Nat) (w : World)
    (hx : Lists w A n xs) (hs : Sl A n c) (ht : Rd (fun _ => True) w T nt ts) (hst : Sl T nt ct) (hW : Works) (hk : KIs w) (h0 : 0 < w.heap.size)
    (s16 : ∀ (g : Nat) (al : List UInt8) (w : World), al.length ≤ 20000 → HashIs w g al al.length → KIs w → 0 < w.heap.size → Calls Tryd.prog 16 #[.pointer (some ⟨g, 0, none⟩)] w fun E w' => E = .returned (.agg (u8s (sm al)).toArray) ∧ Below w.heap.size w w')
    (s12 : ∀ (al : List UInt8) (A : Option Addr) (c : Nat) (w : World), al.length ≤ 20000 → Rd (fun _ => True) w A al.length al → Sl A al.length c → KIs w → 0 < w.heap.size → Calls Tryd.prog 12 #[.slice A al.length c] w fun E w' => E = .returned (.agg (u8s (sm al)).toArray) ∧ Below w.heap.size w w') :
    Calls Tryd.prog 8 #[.slice A n c, .slice T nt ct] w fun E w' => E = .returned (.bool true) ∧ Below w.heap.size w w' := by
  have HK := Lib.hid hk
  have HW := Lib.hid hW
  have HX := Lib.hid hx
  have HT := Lib.hid ht
  have S16 := Lib.hid s16
  have S12 := Lib.hid s12
  have heq := fun al => eq_bytes (sm al) (hsm al)
  have hgd := Tryd.guard29
  clear hk hW hx ht s16 s12
  by_cases hn30 : 30 < n
  · go_enter Tryd.func8, Tryd.ntmps8
    go_wp2_with (first
      | (go_at_call 11; refine (HW.out w HK.out h0).mono ?_; rintro E wz ⟨rfl, hbz⟩))
    go_ret
    exact ⟨rfl, hbz⟩
  go_enter Tryd.func8, Tryd.ntmps8
  go_wp2_with (first
    | (go_at_call 14; refine (new_any w).mono ?_; rintro E w1 ⟨g1, rfl, hg1, hh1, hb1⟩)
    | (go_at_call 14; refine (new_any w1).mono ?_; rintro E w2 ⟨g2, rfl, hg2, hh2, hb2⟩))
  have hl1 := hh1.lt
  have hl2 := hh2.lt
  have HG1 : Hid (0 < g1) := Lib.hid (by omega)
  have HG2 : Hid (0 < g2) := Lib.hid (by omega)
  have HP : Hid (Two (g2 + 1) g1 g2 [] [] [] [] none 0 none 0 w w2) := Lib.hid ⟨hb1.trans (hb2.mono hb1.size), hh1.below hb2 hl1, hh2, ⟨rfl, .inl ⟨rfl, rfl⟩⟩, ⟨rfl, .inl ⟨rfl, rfl⟩⟩, ⟨fun _ => ⟨rfl, rfl⟩, Nat.le_refl _, by omega⟩, ⟨fun _ => ⟨rfl, rfl⟩, Nat.le_refl _, by omega⟩, (fun j hj => by cases hj), hg1, by omega, by omega, by omega, by omega, by omega⟩
  clear hg1 hh1 hb1 hg2 hh2 hb2 hl1 hl2
  go_loopw [7, 8, 9] (fun v7 v8 v9 wr => ∃ (k : Nat) (a1 a2 : List UInt8) (A1 : Option Addr) (c1 : Nat) (A2 : Option Addr) (c2 : Nat), k ≤ n ∧ v9 = .int .i64 k ∧ v7 = .slice A1 a1.length c1 ∧ v8 = .slice A2 a2.length c2 ∧ Hid (a1.length + a2.length ≤ 300 * k) ∧ Hid (Two (g2 + 1) g1 g2 a1 a2 a1 a2 A1 c1 A2 c2 w wr)) (fun _ _ v9 _ => n - (intOf v9).toNat)
  case atStart => exact ⟨0, [], [], none, 0, none, 0, by omega, rfl, rfl, rfl, Lib.hid (by simp), HP⟩
  case round =>
    clear HP
    obtain ⟨k, a1, a2, A1, c1, A2, c2, hkn, rfl, rfl, rfl, HL, HP⟩ := hrel
    have HKR : Hid (KIs wr) := Lib.hid (HK.out.below HP.out.bel h0)
    have HGR : Hid (0 < wr.heap.size) := Lib.hid (Nat.lt_of_lt_of_le h0 HP.out.bel.size)
    have hla : a1.length + a2.length ≤ 9000 := by have := HL.out; omega
    by_cases hkk : k < n
    · obtain ⟨b, o, rfl, hbw, hcs⟩ := HX.out.2 (by omega)
      obtain ⟨⟨Ax, cx, more⟩, hxk⟩ : ∃ x, xs[k]? = some x := ⟨_, List.getElem?_eq_getElem (by rw [HX.out.1]; exact hkk)⟩
      obtain ⟨hcell, hrx, hsx⟩ := hcs k _ hxk
      have cl := (HP.out.bel.cell (p := ⟨b, o + k, none⟩) hbw).trans hcell
      have HCW := Lib.hid hcell
      have HRX := Lib.hid hrx
      have HSX := Lib.hid hsx
      have hbr : b < wr.heap.size := Nat.lt_of_lt_of_le hbw HP.out.bel.size
      clear hcs hxk hcell hrx hsx
      simp only at cl HRX HSX HCW
      by_cases hbig : 300 < more.length
      · go_wp2_with (first
          | (go_at_call 11; refine (HW.out wr HKR.out HGR.out).mono ?_; rintro E wz ⟨rfl, hbz⟩))
        go_ret
        exact ⟨rfl, HP.out.bel.trans (hbz.mono HP.out.bel.size)⟩
      · have HRA : Hid (Rd (fun _ => True) (wr.alloc (.cells #[] 5)) Ax more.length more) := Lib.hid (((HRX.out.mono (Q := (· < w.heap.size)) fun b hb _ => hb).below (HP.out.bel.alloc HP.out.bel.size _) (fun _ h _ => h)).mono fun _ _ _ => trivial)
        by_cases hkt : k < nt
        · obtain ⟨bt, ot, rfl, hbt, _, hct⟩ := HT.out.2 (by omega)
          obtain ⟨u, hu⟩ : ∃ u, ts[k]? = some u := ⟨_, List.getElem?_eq_getElem (by rw [HT.out.1]; exact hkt)⟩
          have HCT := Lib.hid (hct k u hu)
          clear hct hu
          by_cases hodd : (u.toNat : Int) % 2 = 1
          · go_wp2_with (first
              | (at_builtin; refine wpList_append_rd (w0 := wr) rfl (.tmp 37) (.tmp 41) rfl wr.heap.size 0 more.length cx _ Ax [] more rfl rfl (World.ownsRow_lit wr #[] 0 (Nat.le_refl _) (by unfold maxLen; omega) rfl) HRA.out HSX.out ((Below.refl _ _).alloc (Nat.le_refl _) _) (by simp) (by omega) ?_; intro Ao co w4 ho4 hb4; have e4 : 0 + more.length = more.length := Nat.zero_add _; have HSO : Hid (Sl Ao more.length co) := Lib.hid (by rw [← e4]; exact ho4.out.2); have HP4 := Lib.hid (HP.out.next hb4); have HC4 : Hid (Cpy (g2 + 1) (.slice A1 a1.length c1) (.slice A2 a2.length c2) (.slice Ao more.length co) more.length (u8s more) w4) := Lib.hid (HP.out.copy (by have h := ho4.out.1; rw [e4, List.nil_append] at h; exact h)); rw [e4]; have cl4 := hb4.cell (p := ⟨b, o + k, none⟩) hbr |>.trans cl; have ct4 : w4.cell? ⟨bt, ot + k, none⟩ = some (.int .u8 (u.toNat : Int)) := (HP4.out.bel.cell (p := ⟨bt, ot + k, none⟩) hbt).trans HCT.out; clear ho4 hb4 e4)
              | (go_at_call 15; refine (write_any g2 a2 more Ao co w4 HP4.out.h2 ((Rd.of_own HC4.out.own).mono fun b _ hb e => by have := HP4.out.lt2; have hb' : g2 + 1 ≤ b := hb; have e' : b = g2 := e; omega) HSO.out (by omega) (HK.out.below HP4.out.bel h0) HG2.out).mono ?_; rintro E w5 ⟨rfl, hh5, hg5⟩; have HC5 := Lib.hid (HC4.out.write hg5 HP4.out.lt2); have HP5 := Lib.hid ((HP4.out.swap).write hg5 (by rw [List.length_append]; exact hh5)); have cl5 : w5.cell? ⟨b, o + k, none⟩ = _ := (HP5.out.bel.cell (p := ⟨b, o + k, none⟩) hbw).trans HCW.out; have HR5 : Hid (Rd (fun _ => True) w5 Ax more.length more) := Lib.hid ((((HRX.out.mono (Q := (· < w.heap.size)) fun b hb _ => hb).below HP5.out.bel (fun _ h _ => h))).mono fun _ _ _ => trivial); clear hh5 hg5)
              | (at_builtin; refine wpList_append_fr rfl (.tmp 58) (.tmp 62) rfl (g2 + 1) a2.length more.length cx _ Ax a2 more rfl rfl HP5.out.o1 HR5.out HSX.out HP5.out.hB (by omega) ?_; intro A5 c5 w6 ho6 hg6 hf6; have e5 : a2.length + more.length = (a2 ++ more).length := List.length_append.symm; rw [e5] at ho6 hf6; rw [e5]; have HP6 := Lib.hid (HP5.out.app ho6.out.1 ho6.out.2 hg6.out hf6.out); have HC6 := Lib.hid ((HC5.out.swap).app hg6.out hf6.out); have HL6 : Hid ((a2 ++ more).length + a1.length ≤ 300 * (k + 1)) := Lib.hid (by have := HL.out; rw [List.length_append]; omega); generalize a2 ++ more = a5 at HP6 HC6 HL6 ⊢; clear ho6 hg6 hf6 e5))
            go_loopw [11] (fun v11 wi => ∃ (j : Nat) (ys : List Value), j ≤ more.length ∧ v11 = .int .i64 j ∧ Hid (Two (g2 + 1) g2 g1 a5 a1 a5 a1 A5 c5 A1 c1 w wi ∧ Cpy (g2 + 1) (.slice A5 a5.length c5) (.slice A1 a1.length c1) (.slice Ao more.length co) more.length ys wi)) (fun v11 _ => more.length - (intOf v11).toNat)
            case atStart => exact ⟨0, _, by omega, rfl, Lib.hid ⟨HP6.out, HC6.out⟩⟩
            case round =>
              clear HP6 HC6
              obtain ⟨j, ys, hj, rfl, HQ⟩ := hrel
              by_cases hjn : j < more.length
              · obtain ⟨gi, z, rfl, ci, fi⟩ := HQ.out.2.at hjn
                go_wp2
                go_roundw
                case measure => simp [intOf]; omega
                case rel => exact ⟨j + 1, _, by omega, by go_num, Lib.hid ⟨HQ.out.1.set HQ.out.2 _ _, HQ.out.2.set _ _⟩⟩
              · obtain rfl : j = more.length := by omega
                go_wp2
                go_roundw
                case measure => simp [intOf]; omega
                case rel => exact ⟨k + 1, a1, a5, A1, c1, A5, c5, by omega, by go_num, rfl, rfl, Lib.hid (by have := HL6.out; omega), Lib.hid HQ.out.1.swap⟩
          · go_wp2_with (first
              | (at_builtin; refine wpList_append_rd (w0 := wr) rfl (.tmp 37) (.tmp 41) rfl wr.heap.size 0 more.length cx _ Ax [] more rfl rfl (World.ownsRow_lit wr #[] 0 (Nat.le_refl _) (by unfold maxLen; omega) rfl) HRA.out HSX.out ((Below.refl _ _).alloc (Nat.le_refl _) _) (by simp) (by omega) ?_; intro Ao co w4 ho4 hb4; have e4 : 0 + more.length = more.length := Nat.zero_add _; have HSO : Hid (Sl Ao more.length co) := Lib.hid (by rw [← e4]; exact ho4.out.2); have HP4 := Lib.hid (HP.out.next hb4); have HC4 : Hid (Cpy (g2 + 1) (.slice A1 a1.length c1) (.slice A2 a2.length c2) (.slice Ao more.length co) more.length (u8s more) w4) := Lib.hid (HP.out.copy (by have h := ho4.out.1; rw [e4, List.nil_append] at h; exact h)); rw [e4]; have cl4 := hb4.cell (p := ⟨b, o + k, none⟩) hbr |>.trans cl; have ct4 : w4.cell? ⟨bt, ot + k, none⟩ = some (.int .u8 (u.toNat : Int)) := (HP4.out.bel.cell (p := ⟨bt, ot + k, none⟩) hbt).trans HCT.out; clear ho4 hb4 e4)
              | (go_at_call 15; refine (write_any g1 a1 more Ao co w4 HP4.out.h1 ((Rd.of_own HC4.out.own).mono fun b _ hb e => by have := HP4.out.lt1; have hb' : g2 + 1 ≤ b := hb; have e' : b = g1 := e; omega) HSO.out (by omega) (HK.out.below HP4.out.bel h0) HG1.out).mono ?_; rintro E w5 ⟨rfl, hh5, hg5⟩; have HC5 := Lib.hid (HC4.out.write hg5 HP4.out.lt1); have HP5 := Lib.hid ((HP4.out).write hg5 (by rw [List.length_append]; exact hh5)); have cl5 : w5.cell? ⟨b, o + k, none⟩ = _ := (HP5.out.bel.cell (p := ⟨b, o + k, none⟩) hbw).trans HCW.out; have HR5 : Hid (Rd (fun _ => True) w5 Ax more.length more) := Lib.hid ((((HRX.out.mono (Q := (· < w.heap.size)) fun b hb _ => hb).below HP5.out.bel (fun _ h _ => h))).mono fun _ _ _ => trivial); clear hh5 hg5)
              | (at_builtin; refine wpList_append_fr rfl (.tmp 67) (.tmp 71) rfl (g2 + 1) a1.length more.length cx _ Ax a1 more rfl rfl HP5.out.o1 HR5.out HSX.out HP5.out.hB (by omega) ?_; intro A5 c5 w6 ho6 hg6 hf6; have e5 : a1.length + more.length = (a1 ++ more).length := List.length_append.symm; rw [e5] at ho6 hf6; rw [e5]; have HP6 := Lib.hid (HP5.out.app ho6.out.1 ho6.out.2 hg6.out hf6.out); have HC6 := Lib.hid ((HC5.out).app hg6.out hf6.out); have HL6 : Hid ((a1 ++ more).length + a2.length ≤ 300 * (k + 1)) := Lib.hid (by have := HL.out; rw [List.length_append]; omega); generalize a1 ++ more = a5 at HP6 HC6 HL6 ⊢; clear ho6 hg6 hf6 e5))
            go_loopw [11] (fun v11 wi => ∃ (j : Nat) (ys : List Value), j ≤ more.length ∧ v11 = .int .i64 j ∧ Hid (Two (g2 + 1) g1 g2 a5 a2 a5 a2 A5 c5 A2 c2 w wi ∧ Cpy (g2 + 1) (.slice A5 a5.length c5) (.slice A2 a2.length c2) (.slice Ao more.length co) more.length ys wi)) (fun v11 _ => more.length - (intOf v11).toNat)
            case atStart => exact ⟨0, _, by omega, rfl, Lib.hid ⟨HP6.out, HC6.out⟩⟩
            case round =>
              clear HP6 HC6
              obtain ⟨j, ys, hj, rfl, HQ⟩ := hrel
              by_cases hjn : j < more.length
              · obtain ⟨gi, z, rfl, ci, fi⟩ := HQ.out.2.at hjn
                go_wp2
                go_roundw
                case measure => simp [intOf]; omega
                case rel => exact ⟨j + 1, _, by omega, by go_num, Lib.hid ⟨HQ.out.1.set HQ.out.2 _ _, HQ.out.2.set _ _⟩⟩
              · obtain rfl : j = more.length := by omega
                go_wp2
                go_roundw
                case measure => simp [intOf]; omega
                case rel => exact ⟨k + 1, a5, a2, A5, c5, A2, c2, by omega, by go_num, rfl, rfl, HL6, Lib.hid HQ.out.1⟩
        · go_wp2_with (first
            | (at_builtin; refine wpList_append_rd (w0 := wr) rfl (.tmp 37) (.tmp 41) rfl wr.heap.size 0 more.length cx _ Ax [] more rfl rfl (World.ownsRow_lit wr #[] 0 (Nat.le_refl _) (by unfold maxLen; omega) rfl) HRA.out HSX.out ((Below.refl _ _).alloc (Nat.le_refl _) _) (by simp) (by omega) ?_; intro Ao co w4 ho4 hb4; have e4 : 0 + more.length = more.length := Nat.zero_add _; have HSO : Hid (Sl Ao more.length co) := Lib.hid (by rw [← e4]; exact ho4.out.2); have HP4 := Lib.hid (HP.out.next hb4); have HC4 : Hid (Cpy (g2 + 1) (.slice A1 a1.length c1) (.slice A2 a2.length c2) (.slice Ao more.length co) more.length (u8s more) w4) := Lib.hid (HP.out.copy (by have h := ho4.out.1; rw [e4, List.nil_append] at h; exact h)); rw [e4]; have cl4 := hb4.cell (p := ⟨b, o + k, none⟩) hbr |>.trans cl;  clear ho4 hb4 e4)
            | (go_at_call 15; refine (write_any g1 a1 more Ao co w4 HP4.out.h1 ((Rd.of_own HC4.out.own).mono fun b _ hb e => by have := HP4.out.lt1; have hb' : g2 + 1 ≤ b := hb; have e' : b = g1 := e; omega) HSO.out (by omega) (HK.out.below HP4.out.bel h0) HG1.out).mono ?_; rintro E w5 ⟨rfl, hh5, hg5⟩; have HC5 := Lib.hid (HC4.out.write hg5 HP4.out.lt1); have HP5 := Lib.hid ((HP4.out).write hg5 (by rw [List.length_append]; exact hh5)); have cl5 : w5.cell? ⟨b, o + k, none⟩ = _ := (HP5.out.bel.cell (p := ⟨b, o + k, none⟩) hbw).trans HCW.out; have HR5 : Hid (Rd (fun _ => True) w5 Ax more.length more) := Lib.hid ((((HRX.out.mono (Q := (· < w.heap.size)) fun b hb _ => hb).below HP5.out.bel (fun _ h _ => h))).mono fun _ _ _ => trivial); clear hh5 hg5)
            | (at_builtin; refine wpList_append_fr rfl (.tmp 67) (.tmp 71) rfl (g2 + 1) a1.length more.length cx _ Ax a1 more rfl rfl HP5.out.o1 HR5.out HSX.out HP5.out.hB (by omega) ?_; intro A5 c5 w6 ho6 hg6 hf6; have e5 : a1.length + more.length = (a1 ++ more).length := List.length_append.symm; rw [e5] at ho6 hf6; rw [e5]; have HP6 := Lib.hid (HP5.out.app ho6.out.1 ho6.out.2 hg6.out hf6.out); have HC6 := Lib.hid ((HC5.out).app hg6.out hf6.out); have HL6 : Hid ((a1 ++ more).length + a2.length ≤ 300 * (k + 1)) := Lib.hid (by have := HL.out; rw [List.length_append]; omega); generalize a1 ++ more = a5 at HP6 HC6 HL6 ⊢; clear ho6 hg6 hf6 e5))
          go_loopw [11] (fun v11 wi => ∃ (j : Nat) (ys : List Value), j ≤ more.length ∧ v11 = .int .i64 j ∧ Hid (Two (g2 + 1) g1 g2 a5 a2 a5 a2 A5 c5 A2 c2 w wi ∧ Cpy (g2 + 1) (.slice A5 a5.length c5) (.slice A2 a2.length c2) (.slice Ao more.length co) more.length ys wi)) (fun v11 _ => more.length - (intOf v11).toNat)
          case atStart => exact ⟨0, _, by omega, rfl, Lib.hid ⟨HP6.out, HC6.out⟩⟩
          case round =>
            clear HP6 HC6
            obtain ⟨j, ys, hj, rfl, HQ⟩ := hrel
            by_cases hjn : j < more.length
            · obtain ⟨gi, z, rfl, ci, fi⟩ := HQ.out.2.at hjn
              go_wp2
              go_roundw
              case measure => simp [intOf]; omega
              case rel => exact ⟨j + 1, _, by omega, by go_num, Lib.hid ⟨HQ.out.1.set HQ.out.2 _ _, HQ.out.2.set _ _⟩⟩
            · obtain rfl : j = more.length := by omega
              go_wp2
              go_roundw
              case measure => simp [intOf]; omega
              case rel => exact ⟨k + 1, a5, a2, A5, c5, A2, c2, by omega, by go_num, rfl, rfl, HL6, Lib.hid HQ.out.1⟩
    · obtain rfl : k = n := by omega
      go_wp2_with (first
        | (go_at_call_of 16 (Value.pointer (some ⟨g1, 0, none⟩)); refine (S16.out g1 a1 wr (by omega) HP.out.h1 HKR.out HGR.out).mono ?_; rintro E w4 ⟨rfl, hb4⟩; have HP4 := Lib.hid (HP.out.next hb4); clear hb4)
        | (go_at_call_of 12 (Value.slice A1 a1.length c1); refine (S12.out a1 A1 c1 w4 (by omega) ((Rd.of_own HP4.out.o1).mono fun _ _ _ => trivial) HP4.out.s1 (HK.out.below HP4.out.bel h0) (Nat.lt_of_lt_of_le h0 HP4.out.bel.size)).mono ?_; rintro E w5 ⟨rfl, hb5⟩; have HP5 := Lib.hid (HP4.out.next hb5); clear hb5)
        | (go_at_call_of 16 (Value.pointer (some ⟨g2, 0, none⟩)); refine (S16.out g2 a2 w5 (by omega) HP5.out.h2 (HK.out.below HP5.out.bel h0) (Nat.lt_of_lt_of_le h0 HP5.out.bel.size)).mono ?_; rintro E w6 ⟨rfl, hb6⟩; have HP6 := Lib.hid (HP5.out.next hb6); clear hb6)
        | (go_at_call_of 12 (Value.slice A2 a2.length c2); refine (S12.out a2 A2 c2 w6 (by omega) ((Rd.of_own HP6.out.o2).mono fun _ _ _ => trivial) HP6.out.s2 (HK.out.below HP6.out.bel h0) (Nat.lt_of_lt_of_le h0 HP6.out.bel.size)).mono ?_; rintro E w7 ⟨rfl, hb7⟩; have HP7 := Lib.hid (HP6.out.next hb7); clear hb7)
        | (go_at_call 11; refine (HW.out w7 (HK.out.below HP7.out.bel h0) (Nat.lt_of_lt_of_le h0 HP7.out.bel.size)).mono ?_; rintro E w8 ⟨rfl, hb8⟩))
      go_ret
      exact ⟨rfl, HP7.out.bel.trans (hb8.mono HP7.out.bel.size)⟩
end Go.Proofs.YtflbhicjaaeegaaDoor
