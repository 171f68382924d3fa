/-
  What is proved: the walk of ShaGoesOn for whatever comes in. Conditions as stated.
-/
import Derived.Test.YtflbhicjaaeegaaDoorAA
namespace Go.Proofs.YtflbhicjaaeegaaDoor
open Go.RowKit

theorem u32s_set (l : List UInt32) (k : Nat) (x : UInt32) : (u32s l).set k (.int .u32 (x.toNat : Int)) = u32s (l.set k x) := by simp [u32s, u32]
theorem own_below {B : Nat} {w w' : World} {v : Value} {n : Nat} {xs : List Value} (h : w.ownsRow B 5 1 v n xs) (hb : Below w.heap.size w w') : w'.ownsRow B 5 1 v n xs := by
  rcases h.2 with ⟨h0, h1⟩ | ⟨g, cap, cur, hv, hB, hh, h3⟩
  · exact ⟨h.1, .inl ⟨h0, h1⟩⟩
  · exact ⟨h.1, .inr ⟨g, cap, cur, hv, hB, (hb.block g (Array.getElem?_eq_some_iff.1 hh).1).trans hh, h3⟩⟩

/-- What lies in memory while the blocks are taken. -/
structure GoAt (G T b o : Nat) (rest : List UInt8) (A : Option Addr) (k : Nat) (all : List UInt8) (s : List UInt32) (w wr : World) : Prop where
  bel : Below w.heap.size w wr
  rd : ∀ (j : Nat) (u : UInt8), rest[j]? = some u → wr.cell? ⟨b, o + j, none⟩ = some (.int .u8 (u.toNat : Int))
  ra : Rd (fun x => x ≠ G ∧ x < T) wr A k all
  sc : wr.rangeAt G 0 (u32s s)
  st : wr.there G 0 8
  hb : b ≠ G ∧ b < T
  hw : w.heap.size ≤ G
  hG : G < T
  lt : T ≤ wr.heap.size
theorem GoAt.next {G T b o k : Nat} {rest all : List UInt8} {A : Option Addr} {s : List UInt32} {w wr wr' : World} (H : GoAt G T b o rest A k all s w wr) (h : Below wr.heap.size wr wr') : GoAt G T b o rest A k all s w wr' := by
  have h1 := Nat.lt_of_lt_of_le H.hG H.lt
  exact ⟨H.bel.trans (h.mono H.bel.size), fun j u hu => (h.cell (p := ⟨b, o + j, none⟩) (Nat.lt_of_lt_of_le H.hb.2 H.lt)).trans (H.rd j u hu), H.ra.below h (fun _ hx _ => hx), rangeAt_below H.sc h h1, there_below H.st h h1, H.hb, H.hw, H.hG, Nat.le_trans H.lt h.size⟩
theorem GoAt.set {G T b o k : Nat} {rest all : List UInt8} {A : Option Addr} {s : List UInt32} {w wr : World} (H : GoAt G T b o rest A k all s w wr) (g i : Nat) (hg : T ≤ g) (v : Value) : GoAt G T b o rest A k all s w (wr.setCell ⟨g, i, none⟩ v) := by
  have h1 := H.hb
  have h2 := H.hw
  have h3 := H.hG
  refine ⟨H.bel.setCell (by show w.heap.size ≤ g; omega) _, fun j u hu => ?_, H.ra.grown (gb_set _ _ _ _) (fun x hx => by omega), rangeAt_set_other H.sc (by omega) _ _, there_set H.st _ _, h1, h2, h3, by simpa [World.setCell] using H.lt⟩
  rw [World.cell?_setCell_other _ _ _ _ (by intro e; injection e with e; omega)]
  exact H.rd j u hu
theorem GoAt.store {G T b o k : Nat} {rest all : List UInt8} {A : Option Addr} {s s' : List UInt32} {w wr : World} (H : GoAt G T b o rest A k all s w wr) (hl : s'.length = 8) : GoAt G T b o rest A k all s' w (wr.setCells G 0 (u32s s')) := by
  have h1 := H.hb
  refine ⟨below_setCells H.hw _ _ _ H.bel, fun j u hu => ?_, H.ra.grown (gb_setCells G _ 0 _) (fun x hx => hx.1), World.rangeAt_setCells_same _ _ _ _ (by rw [u32s_length, hl]; exact H.st), World.there_setCells H.st _ _ _, h1, H.hw, H.hG, ?_⟩
  · rw [World.cell?_setCells_out G _ 0 wr ⟨b, o + j, none⟩ (fun e => absurd e h1.1)]
    exact H.rd j u hu
  · have := (below_setCells (B := 0) (a := wr) (b := G) (Nat.zero_le _) (u32s s') 0 _ (Below.refl _ _)).size
    exact Nat.le_trans H.lt this

set_option maxHeartbeats 1000000 in
set_option maxRecDepth 100000 in
theorem shaGoesOn_by (b more d e p p2 : List UInt8) (L1 L2 : Nat) (st : Nat → List UInt32) (N : Nat) (hd : d.length = 32) (hel : e.length = 32) (A B : Option Addr) (n c m cm : Nat) (w : World)
    (hra : Rd (fun _ => True) w A n b) (hsa : Sl A n c) (hrb : Rd (fun _ => True) w B m more) (hsb : Sl B m cm) (hW : Works) (hk : KIs w) (h0 : 0 < w.heap.size)
    (hl1 : p.length = L1) (hl2 : p2.length = L2) (hL1 : L1 < 128) (hL2 : L2 < 128) (hL20 : 0 < L2) (h64 : (n + L1) % 64 = 0) (hN : m + L2 = 64 * N)
    (s12 : ∀ (A : Option Addr) (c : Nat) (w : World), n ≤ 500 → Rd (fun _ => True) w A n b → Sl A n c → KIs w → 0 < w.heap.size → Calls Tryd.prog 12 #[.slice A n c] w fun E w' => E = .returned (.agg (u8s d).toArray) ∧ Below w.heap.size w w')
    (s12b : ∀ (A : Option Addr) (c : Nat) (w : World), n ≤ 500 → m ≤ 500 → Rd (fun _ => True) w A (n + L1 + m) (b ++ p ++ more) → Sl A (n + L1 + m) c → KIs w → 0 < w.heap.size → Calls Tryd.prog 12 #[.slice A (n + L1 + m) c] w fun E w' => E = .returned (.agg (u8s e).toArray) ∧ Below w.heap.size w w')
    (pd1 : ∀ w : World, n ≤ 500 → Calls Tryd.prog 18 #[.int .i64 (n : Int)] w fun E w' => ∃ A' c', E = .returned (.slice A' L1 c') ∧ Hid (OwP L1 p w w' A' c'))
    (pd2 : ∀ w : World, n ≤ 500 → m ≤ 500 → Calls Tryd.prog 18 #[.int .i64 ((n : Int) + (L1 : Int) + (m : Int))] w fun E w' => ∃ A' c', E = .returned (.slice A' L2 c') ∧ Hid (OwP L2 p2 w w' A' c'))
    (h8 : ∀ q, (st q).length = 8) (fd : Nat → List UInt32) (hf : fd 32 = st 0) (hf0 : fd 0 = List.replicate 8 0) (hfs : ∀ i, fd (i + 1) = (fd i).set (i / 4) (pushed ((fd i).getD (i / 4) 0) (d.getD i 0))) (hf8 : ∀ i, (fd i).length = 8)
    (hbk : ∀ (q : Nat) (w : World), q < N → KIs w → 0 < w.heap.size → Calls Tryd.prog 9 #[.agg (u32s (st q)).toArray, .agg (u8s (((more ++ p2).drop (64 * q)).take 64)).toArray] w fun E w' => E = .returned (.agg (u32s (st (q + 1))).toArray) ∧ Below w.heap.size w w')
    (ho : ∀ i, i < 32 → ((e.getD i 0).toNat : Int) = (((st N).getD (i / 4) 0).toNat : Int) / 2 ^ (24 - 8 * (i % 4)) % 256) :
    Calls Tryd.prog 7 #[.slice A n c, .slice B m cm] w fun E w' => E = .returned (.bool true) ∧ Below w.heap.size w w' := by
  have HK := Lib.hid hk
  have HW := Lib.hid hW
  have HRA := Lib.hid hra
  have HSA := Lib.hid hsa
  have HRB := Lib.hid hrb
  have HSB := Lib.hid hsb
  have S12 := Lib.hid s12
  have S12B := Lib.hid s12b
  have PD1 := Lib.hid pd1
  have PD2 := Lib.hid pd2
  have H8 := Lib.hid h8
  have HF := Lib.hid hf
  have HF0 := Lib.hid hf0
  have HFS := Lib.hid hfs
  have HF8 := Lib.hid hf8
  have HBK := Lib.hid hbk
  have HO := Lib.hid ho
  have HD := Lib.hid hd
  have HE := Lib.hid hel
  have HP1 := Lib.hid hl1
  have HP2 := Lib.hid hl2
  have HN := Lib.hid hN
  have H64 := Lib.hid h64
  clear hk hW hra hsa hrb hsb s12 s12b pd1 pd2 h8 hf hf0 hfs hf8 hbk ho hd hel hl1 hl2 hN h64
  by_cases hn : 500 < n
  · go_enter Tryd.func7, Tryd.ntmps7
    go_wp2_with (first
      | (go_at_call 11; refine (HW.out w HK.out h0).mono ?_; rintro E w1 ⟨rfl, hb1⟩))
    go_ret
    exact ⟨rfl, hb1⟩
  · by_cases hm : 500 < m
    · go_enter Tryd.func7, Tryd.ntmps7
      go_wp2_with (first
        | (go_at_call 11; refine (HW.out w HK.out h0).mono ?_; rintro E w1 ⟨rfl, hb1⟩))
      go_ret
      exact ⟨rfl, hb1⟩
    · have hn2 : n ≤ 500 := by omega
      have hm2 : m ≤ 500 := by omega
      have HDL : Hid ((u8s d).length = 32) := Lib.hid (by rw [u8s_length, HD.out])
      have HI29 : Hid ((Tryd.prog.info? 29).map (·.size) = some (u8s d).length) := Lib.hid (by rw [HDL.out]; exact Tryd.size29)
      go_enter Tryd.func7, Tryd.ntmps7
      go_wp2_with (first
        | (go_at_call 12; refine (S12.out A c w hn2 HRA.out HSA.out HK.out h0).mono ?_; rintro E w1 ⟨rfl, hb1⟩; have HB1 := Lib.hid hb1; clear hb1)
        | (refine wpList_store_fresh rfl 29 (.tmp 5) (.tmp 26) rfl (u8s d) rfl rfl HDL.out.symm HI29.out (u8s_one _) ?_; intro w2 G2))
      generalize hG6 : w2.heap.size = G6
      have HQ : Hid (Below w.heap.size w (w2.alloc (.cells (u32s (List.replicate 8 0)).toArray 23)) ∧ (w2.alloc (.cells (u32s (List.replicate 8 0)).toArray 23)).rangeAt w1.heap.size 0 (u8s d) ∧ (w2.alloc (.cells (u32s (List.replicate 8 0)).toArray 23)).rangeAt G6 0 (u32s (fd 0)) ∧ (w2.alloc (.cells (u32s (List.replicate 8 0)).toArray 23)).there G6 0 8 ∧ w.heap.size ≤ G6 ∧ w1.heap.size < G6 ∧ G6 < (w2.alloc (.cells (u32s (List.replicate 8 0)).toArray 23)).heap.size) := by
        rw [← hG6, HF0.out]
        exact Lib.hid ⟨(HB1.out.trans (G2.out.1.mono HB1.out.size)).alloc (Nat.le_trans HB1.out.size G2.out.1.size) _, World.rangeAt_alloc G2.out.2.1 _, range_new w2 _ 23, there_new w2 _ 23, Nat.le_trans HB1.out.size G2.out.1.size, G2.out.2.2.2, by simp⟩
      clear hG6 G2 HB1 HDL
      go_loopw [7] (fun v7 wr => ∃ i : Nat, i ≤ 32 ∧ v7 = .int .i64 i ∧ Hid (Below w.heap.size w wr ∧ wr.rangeAt w1.heap.size 0 (u8s d) ∧ wr.rangeAt G6 0 (u32s (fd i)) ∧ wr.there G6 0 8 ∧ w.heap.size ≤ G6 ∧ w1.heap.size < G6 ∧ G6 < wr.heap.size)) (fun v7 _ => 32 - (intOf v7).toNat)
      case atStart => exact ⟨0, by omega, rfl, HQ⟩
      case round =>
        clear HQ
        obtain ⟨i, hi, rfl, HQ⟩ := hrel
        by_cases hi32 : i < 32
        · have cs := rangeAt_u32 HQ.out.2.2.1 (i / 4) (by rw [HF8.out]; omega)
          have cd := rangeAt_u8 HQ.out.2.1 i (by rw [HD.out]; exact hi32)
          have cf := there_cell HQ.out.2.2.2.1 (i / 4) (by omega)
          obtain ⟨mm, hmm⟩ : ∃ mm, mm = i / 4 := ⟨_, rfl⟩
          have im : (i : Int) / 4 = (mm : Int) := by omega
          have hm8 : mm < 8 := by omega
          have HFI := Lib.hid (HFS.out i)
          rw [← hmm] at cs cf HFI
          generalize (fd i).getD mm 0 = x at cs HFI
          generalize d.getD i 0 = y at cd HFI
          clear hmm
          go_wp2
          refine wp_region_quiet_tail 13 (by kernel_rfl) (by kernel_rfl) ?_
          simp only [List.take_succ_cons, List.take_zero, List.drop_succ_cons, List.drop_zero]
          repeat (first
            | go_big_quiet_skip
            | (go_big_quiet_want; go_big_quiet_op; go_big_quiet_on))
          refine wpQuiet_nil ?_
          go_wp2
          go_roundw
          case measure => simp [intOf]; omega
          case rel =>
            have hy := y.toNat_lt
            rw [show (y.toNat : Int) % 4294967296 = (y.toNat : Int) by omega, or_pushed]
            have h1 := HQ.out.2.2.2.2.1
            have h2 := HQ.out.2.2.2.2.2.1
            refine ⟨i + 1, by omega, by go_num, Lib.hid ⟨below_drewN (HQ.out.1.setCell (by show w.heap.size ≤ G6; exact h1) _) 1, rangeAt_set_other HQ.out.2.1 (by omega) mm _, ?_, there_set HQ.out.2.2.2.1 mm _, h1, h2, by simpa [World.setCell] using HQ.out.2.2.2.2.2.2⟩⟩
            have h := rangeAt_set HQ.out.2.2.1 mm (by rw [u32s_length, HF8.out]; exact hm8) (.int .u32 ((pushed x y).toNat : Int))
            rw [u32s_set] at h
            rw [HFI.out]
            exact h
        · obtain rfl : i = 32 := by omega
          rw [HF.out] at HQ
          have HBR := Lib.hid HQ.out.1
          have HRB2 := Lib.hid (HRB.out.below HQ.out.1 (fun _ h _ => h))
          have hz1 : (n + L1) % 64 = 0 := H64.out
          have hz2 : (m + L2) % 64 = 0 := by rw [HN.out]; omega
          go_wp2_with (first
            | (at_builtin; refine wpList_append_rd (w0 := wr) rfl (.tmp 44) (.tmp 45) rfl wr.heap.size 0 n c _ A [] b rfl rfl (own_none wr wr.heap.size rfl) ((HRA.out.below HQ.out.1 (fun _ h _ => h)).below ((Below.refl _ _).alloc (Nat.le_refl _) _) (fun _ h _ => h)) HSA.out ((Below.refl _ _).alloc (Nat.le_refl _) _) (by simp) (by omega) ?_; intro A1 c1 w3 h1 hb1; rw [Nat.zero_add] at h1 ⊢; rw [List.nil_append] at h1; have HB3 := Lib.hid hb1; clear hb1)
            | (go_at_call_of 18 (Value.int IntKind.i64 (n : Int)); refine (PD1.out w3 hn2).mono ?_; rintro E w4 ⟨A2, c2, rfl, h2⟩; have HB4 := Lib.hid (HB3.out.trans (h2.out.2.2.mono HB3.out.size)); have h1b := Lib.hid (own_below h1.out.1 h2.out.2.2))
            | (at_builtin; (refine wpList_append_rd (w0 := wr) rfl (.tmp 53) (.tmp 54) rfl wr.heap.size (n + L1) m cm _ B (b ++ p) more rfl rfl h3.out.1 (HRB2.out.below HB5.out (fun _ h _ => h)) HSB.out HB5.out HB5.out.size (by omega) ?_); intro A4 c4 w6 h4 hb6; have HB6 := Lib.hid hb6; have HR4 : Hid (Rd (fun _ => True) w6 A4 (n + L1 + m) (b ++ p ++ more)) := Lib.hid ((Rd.of_own h4.out.1).mono fun _ _ _ => trivial); have HS4 := Lib.hid h4.out.2; have HRB6 := Lib.hid (HRB2.out.below hb6 (fun _ h _ => h)); clear hb6)
            | (at_builtin; (refine wpList_append_rd (w0 := w6) rfl (.tmp 58) (.tmp 61) rfl w6.heap.size m L2 c6 _ A6 more p2 rfl rfl h5b.out (Rd.of_own h6.out.1) h6.out.2.1 HB8.out HB8.out.size (by omega) ?_); intro A7 c7 w9 h7 hb9; have HB9 := Lib.hid hb9; clear hb9)
            | (at_builtin; refine wpList_append_rd (w0 := w6) rfl (.tmp 56) (.tmp 57) rfl w6.heap.size 0 m cm _ B [] more rfl rfl (own_none w6 w6.heap.size rfl) (HRB6.out.below ((Below.refl _ _).alloc (Nat.le_refl _) _) (fun _ h _ => h)) HSB.out ((Below.refl _ _).alloc (Nat.le_refl _) _) (by simp) (by omega) ?_; intro A5 c5 w7 h5 hb7; rw [Nat.zero_add] at h5 ⊢; rw [List.nil_append] at h5; have HB7 := Lib.hid hb7; clear hb7)
            | (go_at_call_of 18 (Value.int IntKind.i64 ((n : Int) + (L1 : Int) + (m : Int))); refine (PD2.out w7 hn2 hm2).mono ?_; rintro E w8 ⟨A6, c6, rfl, h6⟩; have HB8 := Lib.hid (HB7.out.trans (h6.out.2.2.mono HB7.out.size)); have h5b := Lib.hid (own_below h5.out.1 h6.out.2.2))
            | (at_builtin; (refine wpList_append_rd (w0 := wr) rfl (.tmp 46) (.tmp 49) rfl wr.heap.size n L1 c2 _ A2 b p rfl rfl h1b.out (Rd.of_own h2.out.1) h2.out.2.1 HB4.out HB4.out.size (by omega) ?_); intro A3 c3 w5 h3 hb5; have HB5 := Lib.hid hb5; clear hb5))
          obtain ⟨rs, hrs⟩ : ∃ rs, rs = more ++ p2 := ⟨_, rfl⟩
          obtain ⟨al, hal⟩ : ∃ al, al = b ++ p ++ more := ⟨_, rfl⟩
          rw [← hrs] at h7 HBK
          rw [← hal] at h4 S12B
          have hrl : Hid (rs.length = m + L2) := Lib.hid (by rw [hrs, List.length_append, HP2.out, HRB.out.1])
          obtain ⟨bb, o, hA7, hbw, hbP, hbc⟩ := (Rd.of_own h7.out.1).2 (by omega)
          subst hA7
          have HP : Hid (GoAt G6 w9.heap.size bb o rs A4 (n + L1 + m) al (st 0) w w9) := by
            have g1 := HQ.out.2.2.2.2.2.2
            have g2 := HB6.out.size
            have g3 := HB9.out.size
            have hb6 := HBR.out.trans (HB6.out.mono HBR.out.size)
            refine Lib.hid ⟨hb6.trans (HB9.out.mono hb6.size), hbc, ?_, rangeAt_below (rangeAt_below HQ.out.2.2.1 HB6.out g1) HB9.out (by omega), there_below (there_below HQ.out.2.2.2.1 HB6.out g1) HB9.out (by omega), ⟨by omega, hbw⟩, HQ.out.2.2.2.2.1, by omega, Nat.le_refl _⟩
            exact (((Rd.of_own h4.out.1).below HB9.out (fun _ h _ => h))).mono fun x hx hy => ⟨by omega, hx⟩
          have HI8 : Hid (∀ q, (Tryd.prog.info? 23).map (·.size) = some (u32s (st q)).length) := Lib.hid fun q => by rw [u32s_length, H8.out]; exact Tryd.size23
          have HL8 : Hid (∀ q, (u32s (st q)).length = 8) := Lib.hid fun q => by rw [u32s_length, H8.out]
          generalize w9.heap.size = T at HP
          have e641 : (((n : Int) + (L1 : Int)) % 64 != 0) = false := by
            have h : ((n : Int) + (L1 : Int)) % 64 = 0 := by omega
            rw [h]
            rfl
          have e642 : (((m : Int) + (L2 : Int)) % 64 != 0) = false := by
            have h : ((m : Int) + (L2 : Int)) % 64 = 0 := by omega
            rw [h]
            rfl
          try rw [e641]
          try rw [e642]
          try simp only [Bool.or_false, Bool.false_or]
          clear e641 e642
          clear hrs hal HQ HBR HRB2 HB3 HB4 HB5 HB6 HB7 HB8 HB9 HR4 HRB6 h1 h1b h2 h3 h4 h5 h5b h6 h7 hbw hbP hbc HRA HSA HRB HSB S12 PD1 PD2 HF HF0 HFS HF8 HD HI29 HP1 HP2 H64
          go_loopw [11] (fun v7 wr => ∃ q : Nat, q ≤ N ∧ v7 = .int .i64 ((64 * q : Nat) : Int) ∧ Hid (GoAt G6 T bb o rs A4 (n + L1 + m) al (st q) w wr)) (fun v7 _ => m + L2 - (intOf v7).toNat)
          case atStart => exact ⟨0, Nat.zero_le _, rfl, HP⟩
          case round =>
            clear HP
            obtain ⟨q, hq, rfl, HP⟩ := hrel
            by_cases hqN : q < N
            · have hqL : 64 * q + 64 ≤ m + L2 := by have := HN.out; omega
              obtain ⟨ch, hch⟩ : ∃ ch, ch = (rs.drop (64 * q)).take 64 := ⟨_, rfl⟩
              have hcl : ch.length = 64 := by rw [hch, List.length_take, List.length_drop, hrl.out]; omega
              have HBQ : Hid (∀ w : World, KIs w → 0 < w.heap.size → Calls Tryd.prog 9 #[.agg (u32s (st q)).toArray, .agg (u8s ch).toArray] w fun E w' => E = .returned (.agg (u32s (st (q + 1))).toArray) ∧ Below w.heap.size w w') := Lib.hid fun w hk h0 => by
                rw [hch]
                exact HBK.out q w hqN hk h0
              have HCA : Hid (∀ i, i < 64 → rs[64 * q + i]? = some (ch.getD i 0)) := Lib.hid fun i hi => by
                have h1 : ch[i]? = rs[64 * q + i]? := by rw [hch, List.getElem?_take_of_lt hi, List.getElem?_drop]
                rw [← h1, List.getD_eq_getElem?_getD, List.getElem?_eq_getElem (by omega : i < ch.length)]
                rfl
              have HCL := Lib.hid hcl
              have HIC : Hid ((Tryd.prog.info? 24).map (·.size) = some (u8s ch).length) := Lib.hid (by rw [u8s_length, hcl]; exact Tryd.size24)
              clear hch hcl
              go_wp2
              generalize hG9 : wr.heap.size = G9
              have HGG : Hid (T ≤ G9) := Lib.hid (by rw [← hG9]; exact HP.out.lt)
              have HQ : Hid (GoAt G6 T bb o rs A4 (n + L1 + m) al (st q) w (wr.alloc (.cells (u8s (List.replicate 64 0)).toArray 24)) ∧ (wr.alloc (.cells (u8s (List.replicate 64 0)).toArray 24)).rangeAt G9 0 (u8s (ch.take 0 ++ List.replicate (64 - 0) 0)) ∧ (wr.alloc (.cells (u8s (List.replicate 64 0)).toArray 24)).there G9 0 64) := by
                rw [← hG9]
                exact Lib.hid ⟨HP.out.next ((Below.refl _ _).alloc (Nat.le_refl _) _), range_new wr (u8s (List.replicate 64 0)) 24, there_new wr _ 24⟩
              clear hG9 HP
              go_loopw [13] (fun v9 wr => ∃ i : Nat, i ≤ 64 ∧ v9 = .int .i64 i ∧ Hid (GoAt G6 T bb o rs A4 (n + L1 + m) al (st q) w wr ∧ wr.rangeAt G9 0 (u8s (ch.take i ++ List.replicate (64 - i) 0)) ∧ wr.there G9 0 64)) (fun v9 _ => 64 - (intOf v9).toNat)
              case atStart => exact ⟨0, by omega, rfl, HQ⟩
              case round =>
                clear HQ
                obtain ⟨i, hi, rfl, HQ⟩ := hrel
                by_cases hi64 : i < 64
                · have cl := HQ.out.1.rd _ _ (HCA.out i hi64)
                  have cs := rangeAt_u8 HQ.out.2.1 i (by simp [HCL.out]; omega)
                  have cf := there_cell HQ.out.2.2 i hi64
                  have HTK : Hid (ch.take (i + 1) = ch.take i ++ [ch.getD i 0]) := Lib.hid (by
                    rw [List.take_add_one, List.getD_eq_getElem?_getD, List.getElem?_eq_getElem (by rw [HCL.out]; exact hi64)]
                    rfl)
                  have HTL : Hid ((ch.take i).length = i) := Lib.hid (by rw [List.length_take, HCL.out]; omega)
                  generalize (ch.take i ++ List.replicate (64 - i) 0).getD i 0 = old at cs
                  generalize ch.getD i 0 = x at cl HTK
                  go_wp2
                  go_roundw
                  case measure => simp [intOf]; omega
                  case rel =>
                    refine ⟨i + 1, by omega, by go_num, Lib.hid ⟨HQ.out.1.set G9 i HGG.out _, ?_, there_set HQ.out.2.2 _ _⟩⟩
                    have h := rangeAt_set HQ.out.2.1 i (by rw [u8s_length, List.length_append, HTL.out, List.length_replicate]; omega) (.int .u8 (x.toNat : Int))
                    rw [HTK.out, ← fill_set (ch.take i) 0 x 64 i HTL.out hi64]
                    rw [u8s_set] at h
                    exact h
                · obtain rfl : i = 64 := by omega
                  have HCH : Hid (wr.rangeAt G9 0 (u8s ch)) := Lib.hid (by
                    have h := HQ.out.2.1
                    rwa [List.take_of_length_le (by rw [HCL.out]; exact Nat.le_refl _), Nat.sub_self, List.replicate_zero, List.append_nil] at h)
                  clear hi64 hi HCA HCL
                  have HKQ : Hid (KIs wr) := Lib.hid (HK.out.below HQ.out.1.bel h0)
                  have HG0 : Hid (0 < wr.heap.size) := Lib.hid (Nat.lt_of_lt_of_le h0 HQ.out.1.bel.size)
                  have HQP := Lib.hid HQ.out.1
                  have HSC := Lib.hid HQ.out.1.sc
                  clear HQ
                  go_wp2_with (first
                    | (refine wpList_load_mid rfl 23 (.tmp 6) rfl G6 0 rfl (u32s (st q)) _ HSC.out Tryd.underlying23 rfl (HI8.out q) ?_)
                    | (refine wpList_load_mid rfl 24 (.tmp 12) rfl G9 0 rfl (u8s ch) _ HCH.out Tryd.underlying24 rfl HIC.out ?_)
                    | (go_at_call 9; refine (HBQ.out wr HKQ.out HG0.out).mono ?_; rintro E w7 ⟨rfl, hb7⟩; have HQ7 := Lib.hid (HQP.out.next hb7); clear hb7)
                    | (refine wpList_store_cells rfl 23 (.tmp 6) (.tmp 92) rfl G6 0 (u32s (st (q + 1))) rfl rfl (by rw [HL8.out]; exact HQ7.out.st) (HI8.out (q + 1)) (u32s_one _) ?_))
                  go_roundw
                  case measure => simp [intOf]; omega
                  case rel => exact ⟨q + 1, by omega, by go_num, Lib.hid (HQ7.out.store (H8.out (q + 1)))⟩
            · obtain rfl : q = N := by omega
              have hLq : m + L2 = 64 * q := HN.out
              have HEL : Hid ((u8s e).length = 32) := Lib.hid (by rw [u8s_length, HE.out])
              have HI29 : Hid ((Tryd.prog.info? 29).map (·.size) = some (u8s e).length) := Lib.hid (by rw [HEL.out]; exact Tryd.size29)
              have HKQ : Hid (KIs wr) := Lib.hid (HK.out.below HP.out.bel h0)
              have HG0 : Hid (0 < wr.heap.size) := Lib.hid (Nat.lt_of_lt_of_le h0 HP.out.bel.size)
              have HRX : Hid (Rd (fun _ => True) wr A4 (n + L1 + m) al) := Lib.hid (HP.out.ra.mono fun _ _ _ => trivial)
              go_wp2_with (first
                | (go_at_call 12; refine (S12B.out A4 c4 wr hn2 hm2 HRX.out HS4.out HKQ.out HG0.out).mono ?_; rintro E wa ⟨rfl, hba⟩; have HQ7 := Lib.hid (HP.out.next hba); clear hba)
                | (refine wpList_store_fresh rfl 29 (.tmp 14) (.tmp 94) rfl (u8s e) rfl rfl HEL.out.symm HI29.out (u8s_one _) ?_; intro wb Gb))
              have HQ : Hid (Below w.heap.size w wb ∧ wb.rangeAt wa.heap.size 0 (u8s e) ∧ wb.rangeAt G6 0 (u32s (st q))) := by
                have g1 := Nat.lt_of_lt_of_le HQ7.out.hG HQ7.out.lt
                exact Lib.hid ⟨HQ7.out.bel.trans (Gb.out.1.mono HQ7.out.bel.size), Gb.out.2.1, rangeAt_below HQ7.out.sc Gb.out.1 g1⟩
              generalize wa.heap.size = G14 at HQ ⊢
              clear Gb HQ7 HRX HG0 HKQ HP HEL HI29
              go_loopw [15] (fun v9 wr => ∃ i : Nat, i ≤ 32 ∧ v9 = .int .i64 i ∧ Hid (Below w.heap.size w wr ∧ wr.rangeAt G14 0 (u8s e) ∧ wr.rangeAt G6 0 (u32s (st q)))) (fun v9 _ => 32 - (intOf v9).toNat)
              case atStart => exact ⟨0, by omega, rfl, HQ⟩
              case round =>
                clear HQ
                obtain ⟨i, hi, rfl, HQ⟩ := hrel
                by_cases hi32 : i < 32
                · have cl := rangeAt_u32 HQ.out.2.2 (i / 4) (by rw [H8.out]; omega)
                  have cs := rangeAt_u8 HQ.out.2.1 i (by rw [HE.out]; exact hi32)
                  obtain ⟨mm, hm⟩ : ∃ mm, mm = i / 4 := ⟨_, rfl⟩
                  obtain ⟨r, hr⟩ : ∃ r, r = i % 4 := ⟨_, rfl⟩
                  obtain ⟨t, ht⟩ : ∃ t, t = 3 - r := ⟨_, rfl⟩
                  have hOi : (((st q).getD mm 0).toNat : Int) / 2 ^ (24 - 8 * (3 - t)) % 256 = ((e.getD i 0).toNat : Int) := by
                    have := HO.out i hi32
                    rw [hm, show 24 - 8 * (3 - t) = 24 - 8 * (i % 4) by omega]
                    exact this.symm
                  rw [← hm] at cl
                  have im : (i : Int) / 4 = (mm : Int) := by omega
                  have ir : (i : Int) % 4 = 3 - (t : Int) := by omega
                  have ht4 : t < 4 := by omega
                  have hm8 : mm < 8 := by omega
                  generalize e.getD i 0 = x at cs hOi
                  generalize (st q).getD mm 0 = sm at cl hOi
                  clear hm hr ht
                  go_wp2
                  go_quiet (fail)
                  go_wp2
                  go_roundw
                  case measure => simp [intOf]; omega
                  case rel => exact ⟨i + 1, by omega, by go_num, Lib.hid ⟨below_drewN HQ.out.1 nq, HQ.out.2.1, HQ.out.2.2⟩⟩
                · obtain rfl : i = 32 := by omega
                  have HKQ : Hid (KIs wr) := Lib.hid (HK.out.below HQ.out.1 h0)
                  have HG0 : Hid (0 < wr.heap.size) := Lib.hid (Nat.lt_of_lt_of_le h0 HQ.out.1.size)
                  go_wp2_with (first
                    | (go_at_call 11; refine (HW.out wr HKQ.out HG0.out).mono ?_; rintro E wz ⟨rfl, hbz⟩))
                  go_ret
                  exact ⟨rfl, HQ.out.1.trans (hbz.mono HQ.out.1.size)⟩

theorem shaGoesOn_walk (hW : Works) (W : World) (hk : KIs W) (h0 : 0 < W.heap.size) (A : Option Addr) (n c : Nat) (h : ∃ bs, Rd (fun _ => True) W A n bs ∧ Sl A n c) (B : Option Addr) (m cm : Nat) (h' : ∃ bs, Rd (fun _ => True) W B m bs ∧ Sl B m cm) :
    Calls Tryd.prog 7 #[.slice A n c, .slice B m cm] W fun E w' => E = .returned (.bool true) ∧ Below W.heap.size W w' := by
  obtain ⟨b, hr, hs⟩ := h
  obtain ⟨more, hr', hs'⟩ := h'
  obtain rfl : b.length = n := hr.1
  obtain rfl : more.length = m := hr'.1
  have hla : (b ++ padOf b.length ++ more).length = b.length + (padOf b.length).length + more.length := by rw [List.length_append, List.length_append]
  have hp1 := padOf_length b.length
  have hp2 := padOf_length (b ++ padOf b.length ++ more).length
  have hmp : (more ++ padOf (b ++ padOf b.length ++ more).length).length = more.length + (padOf (b ++ padOf b.length ++ more).length).length := List.length_append
  refine shaGoesOn_by b more (sumOf b) (sumOf (b ++ padOf b.length ++ more)) (padOf b.length) (padOf (b ++ padOf b.length ++ more).length) (padOf b.length).length (padOf (b ++ padOf b.length ++ more).length).length
    (fun q => absN q (absorb (b ++ padOf b.length)) (more ++ padOf (b ++ padOf b.length ++ more).length)) ((more ++ padOf (b ++ padOf b.length ++ more).length).length / 64) (sumOf_length _) (sumOf_length _) A B b.length c more.length cm W hr hs hr' hs' hW hk h0 rfl rfl
    (by omega) (by omega) (by omega) (by omega) (by omega)
    (fun A c w hn hr hs hk h0 => sum_any b A c w hr hs (by omega) hk h0)
    (fun A c w hn hm hr hs hk h0 => by
      rw [← hla] at hr hs ⊢
      exact sum_any _ A c w hr hs (by omega) hk h0)
    (fun w hn => pad_any b.length w (by omega))
    (fun w hn hm => by
      have := pad_any (b ++ padOf b.length ++ more).length w (by omega)
      have e : (((b ++ padOf b.length ++ more).length : Nat) : Int) = (b.length : Int) + ((padOf b.length).length : Int) + (more.length : Int) := by rw [hla]; omega
      rw [e] at this
      exact this)
    (fun q => absN_length q _ _ (absorb_length _)) (fed (sumOf b)) (fed_32 _ (absorb_length _)) rfl (fun _ => rfl) (fed_length _)
    (fun q w hq hk h0 => by
      have := block_any (absN q (absorb (b ++ padOf b.length)) (more ++ padOf (b ++ padOf b.length ++ more).length)) (((more ++ padOf (b ++ padOf b.length ++ more).length).drop (64 * q)).take 64) w (absN_length q _ _ (absorb_length _)) (part64 _ q hq) hk h0
      rw [← absN_succ] at this
      exact this)
    (fun i hi => by
      rw [goes_on]
      exact digestOf_at _ i (by rw [absN_length _ _ _ (absorb_length _)]; omega))
end Go.Proofs.YtflbhicjaaeegaaDoor
