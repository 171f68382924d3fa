/-
  What is proved: the walk of DiskLast for whatever comes in, given that the chapter's examples hold. Conditions as stated.
-/
import Derived.Test.YthbbghkefekhfaaDj
import Derived.Test.YthbbghkefekhfaaDm
import Derived.Lib.QuietBelow
namespace Go.Proofs.Ythbbghkefekhfaa
open Go.RowKit Go.Sort

theorem one_ne {a r : Nat} {o : Obj} (h : a ≠ r) : ∀ p ∈ [(a, o)], p.1 ≠ r := fun p hp => by
  simp at hp
  subst hp
  exact h
/-- What came in, read in a world in which nothing that was there has turned. -/
theorem rd_in {P : Nat → Prop} {w wr : World} {A : Option Addr} {n : Nat} {bs : List UInt8} (h : Rd P w A n bs) (hb : Below w.heap.size w wr) : Rd (fun b => b < w.heap.size) wr A n bs := by
  refine ⟨h.1, fun hn => ?_⟩
  obtain ⟨b, o, e, hlt, _, hc⟩ := h.2 hn
  exact ⟨b, o, e, Nat.lt_of_lt_of_le hlt hb.size, hlt, fun j u hu => (hb.cell (p := ⟨b, o + j, none⟩) hlt).trans (hc j u hu)⟩
theorem stepN {w wr : World} {d T : Nat} {s s' : Dk} {L : List (Nat × Obj)} (h : Dat w d T s L wr) (hT : T < 1000000000) (A : Option Addr) (n c : Nat) (bs : List UInt8) (hr : Rd (fun b => b < w.heap.size) wr A n bs) (hs : Sl A n c) (e : Int) (he : (s.on bs).2 = e) (hs' : (s.on bs).1 = s') :
    Calls Try.prog 22 #[.pointer (some ⟨d, 0, none⟩), .slice A n c] wr fun E w' => E = .returned (.int .i64 e) ∧ Dat w d T s' L w' := by
  have := dat_on h hT A n c bs hr hs
  rw [he, hs'] at this
  exact this
/-- What one sector has behind one loose write. -/
def val (c : Option (List UInt8)) (b : List UInt8) (p : Nat) : Option (List UInt8) := if p % 4 = 0 then c else if p % 4 = 2 then none else some b
def vals (ps : List UInt8) : Nat → Option (List UInt8) → List UInt8 → Option (List UInt8)
  | _, c, [] => c
  | i, c, u :: r => vals ps (i + 1) (val c (secOf u) (ps.getD i 0).toNat) r
theorem vals_snoc (ps : List UInt8) (u : UInt8) : ∀ (l : List UInt8) (i : Nat) (c : Option (List UInt8)), vals ps i c (l ++ [u]) = val (vals ps i c l) (secOf u) (ps.getD (i + l.length) 0).toNat
  | [], _, _ => rfl
  | v :: r, i, c => by
    rw [List.cons_append, vals, vals_snoc ps u r, vals, List.length_cons, show i + 1 + r.length = i + (r.length + 1) by omega]
def fives (l : List UInt8) : List (Int × List UInt8) := l.map fun u => (5, secOf u)
theorem settled_vals (ps : List UInt8) : ∀ (l : List UInt8) (i : Nat) (f : Int → Option (List UInt8)), settled (fun i => (ps.getD i 0).toNat) i f (fives l) 5 = vals ps i (f 5) l
  | [], _, _ => rfl
  | u :: r, i, f => by
    have e : done f (5, secOf u) (ps.getD i 0).toNat 5 = val (f 5) (secOf u) (ps.getD i 0).toNat := by
      unfold done val
      split
      · rfl
      · split <;> exact upd_same _ _ _
    show settled _ (i + 1) (done f (5, secOf u) (ps.getD i 0).toNat) (fives r) 5 = _
    rw [settled_vals ps r, e]
    rfl
def wOf (c : Option (List UInt8)) : List UInt8 := c.getD zeros
def eOf (c : Option (List UInt8)) : Int := if c.isSome then 0 else 9
def sureF (F : List UInt8) : Int → Option (List UInt8) := upd (fun _ => some zeros) 5 (some F)
def stk (F : List UInt8) (l : List UInt8) : Dk := ⟨false, none, sureF F, fives l⟩
theorem stk_next (F l : List UInt8) (u : UInt8) : (stk F l).write 5 (secOf u) = (stk F (l ++ [u]), 0) := by
  show (({ (stk F l) with loose := (stk F l).loose ++ [(5, secOf u)] } : Dk), (0 : Int)) = _
  unfold stk fives
  simp
theorem stk_start (F : List UInt8) : (Dk.new.write 5 F).2 = 0 ∧ (Dk.new.write 5 F).1.sync = (stk F [], 0) := ⟨rfl, rfl⟩
def stEnd (F l ps : List UInt8) : Dk := ⟨false, none, settled (fun i => (ps.getD i 0).toNat) 0 (sureF F) (fives l), []⟩
theorem stk_end (F l ps : List UInt8) : (stk F l).offed.on ps = (stEnd F l ps, 0) := rfl
theorem stEnd_read (F l ps : List UInt8) : (stEnd F l ps).read 5 = (wOf (vals ps 0 (some F) l), eOf (vals ps 0 (some F) l)) := by
  have e : (stEnd F l ps).sure 5 = vals ps 0 (some F) l := by
    show settled _ 0 (sureF F) (fives l) 5 = _
    rw [settled_vals]
    rfl
  show (match (stEnd F l ps).sure 5 with | some b => (b, (0 : Int)) | none => (zeros, 9)) = _
  rw [e]
  cases vals ps 0 (some F) l <;> rfl
theorem stEnd_write (F l ps : List UInt8) (b : List UInt8) : ((stEnd F l ps).write 5 b).2 = 0 ∧ ((stEnd F l ps).write 5 b).1.read 5 = (b, 0) := ⟨rfl, rfl⟩
theorem wOf_length {F : List UInt8} (hF : F.length = 128) (ps : List UInt8) : ∀ (l : List UInt8) (i : Nat) (c : Option (List UInt8)), (wOf c).length = 128 → (wOf (vals ps i c l)).length = 128
  | [], _, _, h => h
  | u :: r, i, c, h => by
    rw [vals]
    refine wOf_length hF ps r (i + 1) _ ?_
    unfold val
    split
    · exact h
    · split
      · rfl
      · exact secOf_length u

set_option maxHeartbeats 4000000 in
set_option maxRecDepth 100000 in
theorem diskLast_by (hW : Works) (u0 : UInt8) (A : Option Addr) (n c : Nat) (ls : List UInt8) (B : Option Addr) (m cm : Nat) (ps : List UInt8) (w : World) (hl : Rd (fun _ => True) w A n ls) (hs : Sl A n c) (hp : Rd (fun _ => True) w B m ps) (hsp : Sl B m cm) :
    Calls Try.prog 7 #[.int .u8 (u0.toNat : Int), .slice A n c, .slice B m cm] w fun E w' => E = .returned (.bool true) ∧ Below w.heap.size w w' := by
  have HW := Lib.hid hW
  have HL := Lib.hid hl
  have HP := Lib.hid hp
  have HS := Lib.hid hs
  have HSP := Lib.hid hsp
  clear hW hl hp
  by_cases hn : 60 < n
  · go_enter Try.func7, Try.ntmps7
    go_wp2_with (first | (go_at_call 9; refine (HW.out w).mono ?_; rintro E wz ⟨rfl, hb⟩))
    go_ret
    exact ⟨rfl, hb⟩
  by_cases hm : 100 < m
  · go_enter Try.func7, Try.ntmps7
    go_wp2_with (first | (go_at_call 9; refine (HW.out w).mono ?_; rintro E wz ⟨rfl, hb⟩))
    go_ret
    exact ⟨rfl, hb⟩
  obtain ⟨Z, hZ⟩ : ∃ b, b = zeros := ⟨_, rfl⟩
  have lZ : Z.length = 128 := by rw [hZ]; rfl
  have UZ : Hid ((u8s Z).length = 128) := Lib.hid (by rw [u8s_length, lZ])
  have HZ := Lib.hid hZ
  have hz : ∀ w, (zeroValue 33).run Try.prog w = .ok (.agg (u8s Z).toArray) w := by rw [hZ]; exact zero33
  obtain ⟨F, hF⟩ : ∃ F, F = secOf u0 := ⟨_, rfl⟩
  have lF : F.length = 128 := by rw [hF]; exact secOf_length _
  have UF : Hid ((u8s F).length = 128) := Lib.hid (by rw [u8s_length, lF])
  have LF := Lib.hid lF
  have HF := Lib.hid hF
  have B0 : Hid (∀ wr, Calls Try.prog 15 #[.int .u8 (u0.toNat : Int)] wr fun E w' => E = .returned (.agg (u8s F).toArray) ∧ Below wr.heap.size wr w') := Lib.hid (fun wr => by rw [hF]; exact bytes_any u0 wr)
  have hx5 : Hid (I64 5) := Lib.hid (i64_of (by omega))
  clear hZ lZ hF lF
  go_enter Try.func7, Try.ntmps7
  go_wp2_with fail
  refine (dat_new (Below.refl _ w)).mono ?_
  rintro E w1 ⟨d, rfl, h1, hdw⟩
  have D1 := Lib.hid h1
  clear h1 hdw
  go_wp2_with fail
  refine (B0.out _).mono ?_
  rintro E w2 ⟨rfl, hb⟩
  have D2 := Lib.hid (D1.out.next hb)
  clear hb D1
  go_wp2_with fail
  refine (stepW D2.out F LF.out (by omega) 5 0 (stk_start F).1 rfl).mono ?_
  rintro E w3 ⟨rfl, hb⟩
  have D3 := Lib.hid hb
  clear hb D2
  go_wp2_with fail
  refine (stepY D3.out (by omega) 0 (by rw [(stk_start F).2]) (s' := stk F []) (by rw [(stk_start F).2])).mono ?_
  rintro E w4 ⟨rfl, hb⟩
  have D4 := Lib.hid hb
  clear hb D3
  go_wp2_with fail
  refine (B0.out _).mono ?_
  rintro E w5 ⟨rfl, hb⟩
  have D5 := Lib.hid (D4.out.next hb)
  clear hb D4
  go_wp2_with (first
    | (refine wpList_store_all rfl 33 (.tmp 8) (.tmp 39) rfl w5.heap.size (u8s Z) (u8s F) 33 (row_new w5 (u8s Z) 33) (UZ.out.trans UF.out.symm) rfl rfl (by rw [UF.out]; exact Try.size33) (u8s_one _) ?_; intro w6 G6; have D6 := Lib.hid (D5.out.var G6.out); clear G6))
  have HQ := Lib.hid D5.out.below.size
  clear D5
  generalize w5.heap.size = q at *
  go_loopw [9, 10] (fun v9 v10 wr => ∃ k : Nat, k ≤ n ∧ v10 = .int .i64 k ∧ v9 = .int .i64 (eOf (vals ps 0 (some F) (ls.take k))) ∧ Hid (Dat w d (k + 1) (stk F (ls.take k)) [(q, .cells (u8s (wOf (vals ps 0 (some F) (ls.take k)))).toArray 33)] wr)) (fun _ v10 _ => n - (intOf v10).toNat)
  case atStart => exact ⟨0, by omega, rfl, rfl, D6⟩
  case round =>
    clear D6
    obtain ⟨k, hkn, rfl, rfl, HD⟩ := hrel
    by_cases hkk : k < n
    · obtain ⟨b0, o0, rfl, hb0, _, hc0⟩ := HL.out.2 (by omega)
      obtain ⟨u, hu⟩ : ∃ u, ls[k]? = some u := ⟨_, List.getElem?_eq_getElem (by rw [HL.out.1]; exact hkk)⟩
      have HC0 := Lib.hid (hc0 k u hu)
      have htk : ls.take (k + 1) = ls.take k ++ [u] := by rw [List.take_add_one, hu]; rfl
      have hlk : (ls.take k).length = k := by rw [List.length_take, HL.out.1]; omega
      have hwl : (wOf (vals ps 0 (some F) (ls.take k))).length = 128 := wOf_length LF.out ps _ 0 _ LF.out
      obtain ⟨cv, hcv⟩ : ∃ cv, cv = vals ps 0 (some F) (ls.take k) := ⟨_, rfl⟩
      obtain ⟨sk, hsk⟩ : ∃ sk, sk = stk F (ls.take k) := ⟨_, rfl⟩
      rw [← hcv] at HD hwl ⊢
      rw [← hsk] at HD
      have HN : vals ps 0 (some F) (ls.take (k + 1)) = val cv (secOf u) (ps.getD k 0).toNat := by rw [htk, vals_snoc, ← hcv, hlk, Nat.zero_add]
      have HWR := Lib.hid (show sk.write 5 (secOf u) = (stk F (ls.take (k + 1)), 0) by rw [hsk, htk]; exact stk_next F (ls.take k) u)
      have UC : Hid ((u8s (wOf cv)).length = 128) := Lib.hid (by rw [u8s_length, hwl])
      have US : Hid ((u8s (secOf u)).length = 128) := Lib.hid (by rw [u8s_length, secOf_length])
      have BU : Hid (∀ wr, Calls Try.prog 15 #[.int .u8 (u.toNat : Int)] wr fun E w' => E = .returned (.agg (u8s (secOf u)).toArray) ∧ Below wr.heap.size wr w') := Lib.hid (bytes_any u)
      have BZ : Hid (∀ wr, Calls Try.prog 15 #[.int .u8 0] wr fun E w' => E = .returned (.agg (u8s Z).toArray) ∧ Below wr.heap.size wr w') := Lib.hid (fun wr => by rw [HZ.out]; exact bytes_any 0 wr)
      have ci := (HD.out.below.cell (p := ⟨b0, o0 + k, none⟩) hb0).trans HC0.out
      have hsc := HS.out.2
      have LU := Lib.hid (secOf_length u)
      clear hc0 hu htk hlk hcv hsk hwl
      obtain ⟨su, hsu⟩ : ∃ su, su = secOf u := ⟨_, rfl⟩
      rw [← hsu] at HN HWR US BU LU
      clear hsu
      go_wp2_with fail
      refine (BU.out _).mono ?_
      rintro E w2 ⟨rfl, hb⟩
      have D2 := Lib.hid (HD.out.next hb)
      clear hb HD ci
      go_wp2_with fail
      refine (stepW D2.out su LU.out (by omega) 5 0 (by rw [HWR.out]) (s' := stk F (ls.take (k + 1))) (by rw [HWR.out])).mono ?_
      rintro E w3 ⟨rfl, hb⟩
      have D3 := Lib.hid hb
      clear hb D2
      have ci3 := (D3.out.below.cell (p := ⟨b0, o0 + k, none⟩) hb0).trans HC0.out
      by_cases hkm : k < m
      · obtain ⟨b1, o1, rfl, hb1, _, hc1⟩ := HP.out.2 (by omega)
        obtain ⟨v, hv⟩ : ∃ v, ps[k]? = some v := ⟨_, List.getElem?_eq_getElem (by rw [HP.out.1]; exact hkm)⟩
        have cp := (D3.out.below.cell (p := ⟨b1, o1 + k, none⟩) hb1).trans (hc1 k v hv)
        have hgv : ps.getD k 0 = v := by rw [List.getD_eq_getElem?_getD, hv]; rfl
        have hspc := hsp.2
        rw [hgv] at HN
        clear hc1 hv hgv
        have h4 : v.toNat % 4 = 0 ∨ v.toNat % 4 = 1 ∨ v.toNat % 4 = 2 ∨ v.toNat % 4 = 3 := by omega
        rcases h4 with h4 | h4 | h4 | h4
        · have hp4 : (v.toNat : Int) % 4 = 0 := by omega
          have HNN := Lib.hid (HN.trans (show val cv su v.toNat = cv by unfold val; rw [if_pos h4]))
          clear HN h4
          go_wp2_with fail
          go_roundw
          case measure => simp [intOf]; omega
          case rel => exact ⟨k + 1, by omega, by go_num, by rw [HNN.out], Lib.hid (by rw [HNN.out]; exact D3.out)⟩
        · have hp4 : (v.toNat : Int) % 4 = 1 := by omega
          have HNN := Lib.hid (HN.trans (show val cv su v.toNat = some su by unfold val; rw [if_neg (by omega), if_neg (by omega)]))
          clear HN h4
          go_wp2_with fail
          refine (BU.out _).mono ?_
          rintro E w4 ⟨rfl, hb⟩
          have D4 := Lib.hid (D3.out.next hb)
          clear hb D3
          go_wp2_with (first
            | (refine wpList_store_all rfl 33 (.tmp 8) (.tmp 72) rfl q (u8s (wOf cv)) (u8s su) 33 (D4.out.get (q := q) (o := .cells (u8s (wOf cv)).toArray 33) (by simp)) (UC.out.trans US.out.symm) rfl rfl (by rw [US.out]; exact Try.size33) (u8s_one _) ?_; intro w6 G6))
          go_roundw
          case measure => simp [intOf]; omega
          case rel => exact ⟨k + 1, by omega, by go_num, by rw [HNN.out]; rfl, Lib.hid (by rw [HNN.out]; exact D4.out.upd (fun _ hp => by cases hp) G6.out.1 G6.out.2)⟩
        · have hp4 : (v.toNat : Int) % 4 = 2 := by omega
          have HNN := Lib.hid (HN.trans (show val cv su v.toNat = none by unfold val; rw [if_neg (by omega), if_pos h4]))
          clear HN h4
          go_wp2_with fail
          refine (BZ.out _).mono ?_
          rintro E w4 ⟨rfl, hb⟩
          have D4 := Lib.hid (D3.out.next hb)
          clear hb D3
          go_wp2_with (first
            | (refine wpList_store_all rfl 33 (.tmp 8) (.tmp 65) rfl q (u8s (wOf cv)) (u8s Z) 33 (D4.out.get (q := q) (o := .cells (u8s (wOf cv)).toArray 33) (by simp)) (UC.out.trans UZ.out.symm) rfl rfl (by rw [UZ.out]; exact Try.size33) (u8s_one _) ?_; intro w6 G6))
          go_roundw
          case measure => simp [intOf]; omega
          case rel => exact ⟨k + 1, by omega, by go_num, by rw [HNN.out]; rfl, Lib.hid (by rw [HNN.out]; have := D4.out.upd (fun _ hp => by cases hp) G6.out.1 G6.out.2; rw [HZ.out] at this; exact this)⟩
        · have hp4 : (v.toNat : Int) % 4 = 3 := by omega
          have HNN := Lib.hid (HN.trans (show val cv su v.toNat = some su by unfold val; rw [if_neg (by omega), if_neg (by omega)]))
          clear HN h4
          go_wp2_with fail
          refine (BU.out _).mono ?_
          rintro E w4 ⟨rfl, hb⟩
          have D4 := Lib.hid (D3.out.next hb)
          clear hb D3
          go_wp2_with (first
            | (refine wpList_store_all rfl 33 (.tmp 8) (.tmp 72) rfl q (u8s (wOf cv)) (u8s su) 33 (D4.out.get (q := q) (o := .cells (u8s (wOf cv)).toArray 33) (by simp)) (UC.out.trans US.out.symm) rfl rfl (by rw [US.out]; exact Try.size33) (u8s_one _) ?_; intro w6 G6))
          go_roundw
          case measure => simp [intOf]; omega
          case rel => exact ⟨k + 1, by omega, by go_num, by rw [HNN.out]; rfl, Lib.hid (by rw [HNN.out]; exact D4.out.upd (fun _ hp => by cases hp) G6.out.1 G6.out.2)⟩
      · have hgv : ps.getD k 0 = 0 := by rw [List.getD_eq_getElem?_getD, List.getElem?_eq_none (by rw [HP.out.1]; omega)]; rfl
        rw [hgv] at HN
        have HNN := Lib.hid (HN.trans (show val cv su (0 : UInt8).toNat = cv from rfl))
        clear HN hgv
        go_wp2_with fail
        go_roundw
        case measure => simp [intOf]; omega
        case rel => exact ⟨k + 1, by omega, by go_num, by rw [HNN.out], Lib.hid (by rw [HNN.out]; exact D3.out)⟩
    · obtain rfl : k = n := by omega
      have htk : ls.take k = ls := List.take_of_length_le (by rw [HL.out.1]; exact Nat.le_refl _)
      rw [htk] at HD ⊢
      have HRD := Lib.hid (stEnd_read F ls ps)
      have hwl : (wOf (vals ps 0 (some F) ls)).length = 128 := wOf_length LF.out ps _ 0 _ LF.out
      generalize vals ps 0 (some F) ls = cv at HD HRD hwl ⊢
      have HON := Lib.hid (stk_end F ls ps)
      obtain ⟨N, hN⟩ : ∃ b, b = secOf 9 := ⟨_, rfl⟩
      have lN : N.length = 128 := by rw [hN]; exact secOf_length _
      have LN := Lib.hid lN
      have UN : Hid ((u8s N).length = 128) := Lib.hid (by rw [u8s_length, lN])
      have BN : Hid (∀ wr, Calls Try.prog 15 #[.int .u8 9] wr fun E w' => E = .returned (.agg (u8s N).toArray) ∧ Below wr.heap.size wr w') := Lib.hid (fun wr => by rw [hN]; exact bytes_any 9 wr)
      have HWR := Lib.hid (stEnd_write F ls ps N)
      generalize stEnd F ls ps = sE at HON HRD HWR
      generalize hsn : (sE.write 5 N).1 = sN at HWR
      have HSN := Lib.hid hsn
      generalize (stk F ls) = sk at HD HON
      generalize hso : sk.offed = sO at HON
      have HSO := Lib.hid hso
      generalize eOf cv = e9 at HRD ⊢
      generalize wOf cv = X at HD HRD hwl
      have LX := Lib.hid hwl
      have UX : Hid ((u8s X).length = 128) := Lib.hid (by rw [u8s_length, hwl])
      clear htk hN lN hsn hso hwl
      go_wp2_with fail
      refine (stepO HD.out (s' := sO) HSO.out).mono ?_
      rintro E w2 ⟨rfl, hb⟩
      have D2 := Lib.hid hb
      clear hb HD
      go_wp2_with fail
      refine (stepN D2.out (by omega) B m cm ps (rd_in HP.out D2.out.below) HSP.out 0 (by rw [HON.out]) (s' := sE) (by rw [HON.out])).mono ?_
      rintro E w3 ⟨rfl, hb⟩
      have D3 := Lib.hid hb
      clear hb D2
      go_wp2_with fail
      refine (stepR D3.out 5 hx5.out X e9 HRD.out).mono ?_
      rintro E w4 ⟨rfl, hb, _⟩
      have D4 := Lib.hid hb
      clear hb D3
      have hge := eq33_same X LX.out
      have hgd := Try.guard33
      go_wp2_with (first
        | (refine wpList_store_all rfl 33 (.tmp 12) (.tmp 82) rfl w4.heap.size (u8s Z) (u8s X) 33 (row_new w4 (u8s Z) 33) (UZ.out.trans UX.out.symm) rfl rfl (by rw [UX.out]; exact Try.size33) (u8s_one _) ?_; intro w5 G5; have D5 := Lib.hid (D4.out.var G5.out); clear G5)
        | (refine wpList_load_mid rfl 33 (.tmp 12) rfl w4.heap.size 0 rfl (u8s X) _ (range_block (D5.out.get (q := w4.heap.size) (o := .cells (u8s X).toArray 33) (by simp)) 0 _ (fun j v hv => by rw [Nat.zero_add]; exact hv)) Try.underlying33 rfl (by rw [UX.out]; exact Try.size33) ?_)
        | (refine wpList_load_mid rfl 33 (.tmp 8) rfl q 0 rfl (u8s X) _ (range_block (D5.out.get (q := q) (o := .cells (u8s X).toArray 33) (by simp)) 0 _ (fun j v hv => by rw [Nat.zero_add]; exact hv)) Try.underlying33 rfl (by rw [UX.out]; exact Try.size33) ?_))
      have HNE := Lib.hid (show q ≠ w4.heap.size from Nat.ne_of_lt (D4.out.lt (q := q) (o := .cells (u8s X).toArray 33) (by simp)))
      clear D4
      generalize w4.heap.size = r at *
      refine (BN.out _).mono ?_
      rintro E w6 ⟨rfl, hb⟩
      have D6 := Lib.hid (D5.out.next hb)
      clear hb D5
      go_wp2_with fail
      refine (stepW D6.out N LN.out (by omega) 5 0 HWR.out.1 (s' := sN) HSN.out).mono ?_
      rintro E w7 ⟨rfl, hb⟩
      have D7 := Lib.hid hb
      clear hb D6
      go_wp2_with fail
      refine (stepR D7.out 5 hx5.out N 0 HWR.out.2).mono ?_
      rintro E w8 ⟨rfl, hb, _⟩
      have D8 := Lib.hid hb
      clear hb D7
      go_wp2_with (first
        | (refine wpList_store_all rfl 33 (.tmp 12) (.tmp 101) rfl r (u8s X) (u8s N) 33 (D8.out.get (q := r) (o := .cells (u8s X).toArray 33) (by simp)) (UX.out.trans UN.out.symm) rfl rfl (by rw [UN.out]; exact Try.size33) (u8s_one _) ?_; intro w9 G9; have D9 := Lib.hid (D8.out.upd (one_ne HNE.out) G9.out.1 G9.out.2); clear G9))
      clear hge D8
      have hge := eq33_same N LN.out
      have cA : Hid (∀ d os, Calls Try.prog 15 #[.int .u8 9] (grow (redrawn w9 d) os) fun e w'' => e = .returned (.agg (u8s N).toArray) ∧ ∃ p : Regrown, w'' = grow (redrawn w9 p.d) p.os) := Lib.hid fun d os => Calls.regrown_of (BN.out _)
      have cC : Hid (∀ d os, Calls Try.prog 9 #[] (grow (redrawn w9 d) os) fun e w'' => e = .returned (.bool true) ∧ ∃ p : Regrown, w'' = grow (redrawn w9 p.d) p.os) := Lib.hid fun d os => Calls.regrown_of (HW.out _)
      have g4 := D9.out.get (q := r) (o := .cells (u8s N).toArray 33) (by simp)
      have r0 : Hid (∀ w', (∃ p : Regrown, w' = grow (redrawn w9 p.d) p.os) → w'.rangeAt r 0 (u8s N)) := Lib.hid fun w' ⟨p, hp⟩ => by rw [hp]; exact range_block (((below_regrown w9 p.d p.os).block _ (Array.getElem?_eq_some_iff.1 g4).1).trans g4) 0 _ (fun j v hv => by rw [Nat.zero_add]; exact hv)
      clear g4
      try simp only [Act.put, List.setIfInBounds_toArray, List.set_cons_zero, List.set_cons_succ]
      refine wp_region_quiet_below (by kernel_rfl) (by kernel_rfl) ?_
      refine wpQuiet_load_cellsG 33 (.tmp 12) rfl r 0 rfl (u8s N) _ r0.out Try.underlying33 rfl (by rw [UN.out]; exact Try.size33) (by kernel_rfl) ?_
      simp only [Act.put, List.setIfInBounds_toArray, List.set_cons_zero, List.set_cons_succ]
      go_big_quiet_step (exact cA.out _ _)
      go_big_quiet_step (fail)
      go_big_quiet_step (fail)
      go_big_quiet_step (fail)
      go_big_quiet_step (fail)
      go_big_quiet_step (fail)
      go_big_quiet_step (fail)
      go_big_quiet_step (exact cC.out _ _)
      go_big_quiet_step (fail)
      go_big_quiet_step (fail)
      refine wpQuiet_nil ?_
      intro _ hw'
      obtain ⟨⟨dq, osq⟩, hw''⟩ := hw'
      subst hw''
      go_wp2
      go_ret
      exact ⟨rfl, D9.out.below.trans ((below_regrown w9 dq osq).mono D9.out.below.size)⟩
end Go.Proofs.Ythbbghkefekhfaa
