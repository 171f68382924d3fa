/-
  What is proved: the walk of ShaSums for whatever comes in. Conditions as stated.
-/
import Derived.Test.YtflbhicjaaeegaaDoorX
import Derived.Laws.BytesArg
namespace Go.Proofs.YtflbhicjaaeegaaDoor
open Go.RowKit

theorem Tryd.underlying9' : Tryd.prog.underlying 9 = some .string := by kernel_rfl
/-- Bytes as a string. -/
def str (bs : List UInt8) : ByteArray := ⟨bs.toArray⟩

theorem run_string {P : Nat → Prop} {w : World} {A : Option Addr} {n c : Nat} {bs : List UInt8} (h : Rd P w A n bs) : (convert 28 9 (.slice A n c)).run Tryd.prog w = .ok (.string (str bs)) w := by
  rcases A with _ | ad
  · have h0 : n = 0 := by
      rcases Nat.eq_zero_or_pos n with h0 | h0
      · exact h0
      · obtain ⟨_, _, hA, _⟩ := h.2 h0
        cases hA
    subst h0
    have hb : bs = [] := List.eq_nil_of_length_eq_zero h.1
    subst hb
    exact run_convert_bytes_nil w 28 5 Tryd.underlying28 Tryd.underlying5 0 c 9 Tryd.underlying9'
  · rcases Nat.eq_zero_or_pos n with h0 | h0
    · subst h0
      have hb : bs = [] := List.eq_nil_of_length_eq_zero h.1
      subst hb
      rw [run_convert_bytes_string w 28 9 5 _ 0 c Tryd.underlying28 Tryd.underlying5 Tryd.underlying9', run_bytesToString w ad 0 c [] (by simpa using run_loadCells_list (P := Tryd.prog) w ad [] (by simp))]
      rfl
    · obtain ⟨b, o, hA, _, _, hc⟩ := h.2 h0
      injection hA with hA
      subst hA
      have := run_convert_bytes_arg (P := Tryd.prog) w 28 5 Tryd.underlying28 Tryd.underlying5 b o n c (bs.map fun x => (x.toNat : Int)) (by rw [List.length_map]; exact h.1) (fun i hi => by
        have hi' : i < bs.length := by rw [h.1]; exact hi
        rw [hc i bs[i] (List.getElem?_eq_getElem hi')]
        simp [List.getD, hi']) 9 Tryd.underlying9'
      rw [this]
      congr 2
      apply ByteArray.ext
      apply Array.toList_inj.1
      rw [strOfNums_data, List.map_map]
      simp only [str]
      conv => rhs; rw [← List.map_id bs]
      apply List.map_congr_left
      intro x _
      simp

theorem own_none (w : World) (G : Nat) (hG : w.heap.size = G) : (w.alloc (.cells #[] 5)).ownsRow G 5 1 (.slice (some ⟨G, 0, none⟩) 0 0) 0 (u8s []) := by
  subst hG
  exact World.ownsRow_lit w #[] 0 (Nat.le_refl _) (Nat.zero_le _) rfl

set_option maxHeartbeats 400000 in
theorem shaSums_by (d bs : List UInt8) (hd : d.length = 32) (A : Option Addr) (n c : Nat) (w : World) (hr : Rd (fun _ => True) w A n bs) (hs : Sl A n c) (hW : Works) (hk : KIs w) (h0 : 0 < w.heap.size)
    (s0 : ∀ (A : Option Addr) (c : Nat) (w : World), n ≤ 8192 → Rd (fun _ => True) w A n bs → Sl A n c → KIs w → 0 < w.heap.size → Calls Tryd.prog 12 #[.slice A n c] w fun E w' => E = .returned (.agg (u8s d).toArray) ∧ Below w.heap.size w w')
    (s1 : ∀ (A : Option Addr) (c : Nat) (w : World), n ≤ 8192 → Rd (fun _ => True) w A n bs → Sl A n c → KIs w → 0 < w.heap.size → Calls Tryd.prog 13 #[.slice A n c] w fun E w' => E = .returned (.agg (u8s d).toArray) ∧ Below w.heap.size w w') :
    Calls Tryd.prog 4 #[.slice A n c] w fun E w' => E = .returned (.bool true) ∧ Below w.heap.size w w' := by
  have HK := Lib.hid hk
  have HW := Lib.hid hW
  have HR := Lib.hid hr
  have HS := Lib.hid hs
  have S0 := Lib.hid s0
  have S1 := Lib.hid s1
  have heq := eq_bytes d hd
  have hgd := Tryd.guard29
  clear hk hW s0 s1 hr hs
  by_cases hn : 8192 < n
  · go_enter Tryd.func4, Tryd.ntmps4
    go_wp2_with (first
      | (go_at_call 11; refine (HW.out w HK.out h0).mono ?_; rintro E w1 ⟨rfl, hb1⟩))
    go_ret
    exact ⟨rfl, hb1⟩
  · have hn2 : n ≤ 8192 := by omega
    obtain ⟨s, hs⟩ : ∃ s, s = str bs := ⟨_, rfl⟩
    have hcv : Hid (∀ (P : Nat → Prop) (w : World) (A : Option Addr) (c : Nat), Rd P w A n bs → (convert 28 9 (.slice A n c)).run Tryd.prog w = .ok (.string s) w) := Lib.hid fun P w A c h => by rw [hs]; exact run_string h
    clear hs
    go_enter Tryd.func4, Tryd.ntmps4
    go_wp2_with (first
      | (at_builtin; refine wpList_append_rd (w0 := w) rfl (.tmp 8) (.tmp 9) rfl w.heap.size 0 n c _ A [] bs rfl rfl (own_none w w.heap.size rfl) (HR.out.below ((Below.refl _ _).alloc (Nat.le_refl _) _) (fun _ h _ => h)) HS.out ((Below.refl _ _).alloc (Nat.le_refl _) _) (by simp) (by omega) ?_; intro A1 c1 w1 h1 hb1; rw [Nat.zero_add] at h1 ⊢; rw [List.nil_append] at h1; have HB1 := Lib.hid hb1; have HR1 : Hid (Rd (fun _ => True) w1 A1 n bs) := Lib.hid ((Rd.of_own h1.out.1).mono fun _ _ _ => trivial); have HS1 := Lib.hid h1.out.2; clear h1 hb1)
      | (go_at_call 12; refine (S0.out A1 c1 w1 hn2 HR1.out HS1.out (HK.out.below HB1.out h0) (Nat.lt_of_lt_of_le h0 HB1.out.size)).mono ?_; rintro E w2 ⟨rfl, hb2⟩; have HB2 := Lib.hid (HB1.out.trans (hb2.mono HB1.out.size)); have HR2 := Lib.hid (HR1.out.below hb2 (fun _ h _ => h)); clear hb2)
      | (go_at_call 13; refine (S1.out A c w2 hn2 (HR.out.below HB2.out (fun _ h _ => h)) HS.out (HK.out.below HB2.out h0) (Nat.lt_of_lt_of_le h0 HB2.out.size)).mono ?_; rintro E w3 ⟨rfl, hb3⟩; have HB3 := Lib.hid (HB2.out.trans (hb3.mono HB2.out.size)); have hc1 := hcv.out _ w3 A1 c1 (HR2.out.below hb3 (fun _ h _ => h)); have hc2 := hcv.out _ w3 A c (HR.out.below HB3.out (fun _ h _ => h)); clear hb3)
      | (go_at_call 11; refine (HW.out w3 (HK.out.below HB3.out h0) (Nat.lt_of_lt_of_le h0 HB3.out.size)).mono ?_; rintro E w4 ⟨rfl, hb4⟩))
    go_ret
    exact ⟨rfl, HB3.out.trans (hb4.mono HB3.out.size)⟩

theorem shaSums_walk (hW : Works) (W : World) (hk : KIs W) (h0 : 0 < W.heap.size) (A : Option Addr) (n c : Nat) (h : ∃ bs, Rd (fun _ => True) W A n bs ∧ Sl A n c) :
    Calls Tryd.prog 4 #[.slice A n c] W fun E w' => E = .returned (.bool true) ∧ Below W.heap.size W w' := by
  obtain ⟨bs, hr, hs⟩ := h
  obtain rfl : bs.length = n := hr.1
  exact shaSums_by (sumOf bs) bs (sumOf_length _) A bs.length c W hr hs hW hk h0 (fun A c w hn hr hs hk h0 => sum_any bs A c w hr hs (by omega) hk h0) fun A c w hn hr hs hk h0 => refSum_any bs A c w hr hs (by omega) hk h0
end Go.Proofs.YtflbhicjaaeegaaDoor
