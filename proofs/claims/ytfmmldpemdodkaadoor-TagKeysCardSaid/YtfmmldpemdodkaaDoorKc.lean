/-
  What is proved: what TagKeys answers, whatever comes in. Conditions as stated.
-/
import Derived.Test.YtfmmldpemdodkaaDoorKb
namespace Go.Proofs.YtfmmldpemdodkaaDoor
open Go.RowKit

theorem keys_big (i nn : Int) (A : Option Addr) (n c : Nat) (A' : Option Addr) (n' c' : Nat) (w : World) (hW : Works) (hk : KIs w) (h0 : 0 < w.heap.size) (h1 : n ≤ 4611686018427387903) (h2 : n' ≤ 4611686018427387903) (h : 4096 < n + n') :
    Calls Tryd.prog 5 #[.slice A n c, .slice A' n' c', .int .u8 i, .int .u8 nn] w fun E w' => E = .returned (.bool true) ∧ Below w.heap.size w w' := by
  have HK := Lib.hid hk
  have HW := Lib.hid hW
  clear hk hW
  go_enter Tryd.func5, Tryd.ntmps5
  go_wp2_with (first
    | (go_at_call 8; refine (HW.out w HK.out h0).mono ?_; rintro E w4 ⟨rfl, hb4⟩))
  go_ret
  exact ⟨rfl, hb4⟩

/-- A replica's key lies at the head of a block. -/
theorem rep_any (k : Nat) (hk11 : k < 11) (w : World) (hk : KIs w) (h0 : 0 < w.heap.size) :
    Calls Tryd.prog 11 #[.int .i64 ((k : Int) + 1)] w fun E w' => ∃ g x, E = .returned (.slice (some ⟨g, 0, none⟩) 32 32) ∧ Hid (theKeys[k]? = some x ∧ Rd (fun _ => True) w' (some ⟨g, 0, none⟩) 32 x) ∧ Below w.heap.size w w' := by
  have H := fun s hs hm => Lib.hid (keyOf_yes s txtRep (k + 1) 11 w hs hm (by omega) (by omega) (by omega) hk h0)
  have HX : Hid (theKeys[k]? = some (sumOf (txtRep ++ be 8 (k + 1)))) := Lib.hid (by
    rw [key_rep k hk11, repKey, keyI, if_neg (by omega)]
    congr 3)
  generalize sumOf (txtRep ++ be 8 (k + 1)) = d at H HX
  have e : ((k + 1 : Nat) : Int) = (k : Int) + 1 := by omega
  rw [← e]
  go_enter Tryd.func11, Tryd.ntmps11
  go_wp2_with (go_at_call 23; refine ((H _ rfl (by decide)).out).mono ?_; rintro E w1 ⟨g, rfl, h1, hb1⟩)
  go_ret
  exact ⟨g, d, rfl, Lib.hid ⟨HX.out, h1.out.mono fun _ _ _ => trivial⟩, hb1⟩
/-- A client's key lies at the head of a block. -/
theorem cli_any (k : Nat) (hk8 : k < 8) (w : World) (hk : KIs w) (h0 : 0 < w.heap.size) :
    Calls Tryd.prog 13 #[.int .i64 ((k : Int) + 1)] w fun E w' => ∃ g x, E = .returned (.slice (some ⟨g, 0, none⟩) 32 32) ∧ Hid (theKeys[11 + k]? = some x ∧ Rd (fun _ => True) w' (some ⟨g, 0, none⟩) 32 x) ∧ Below w.heap.size w w' := by
  have H := fun s hs hm => Lib.hid (keyOf_yes s txtCli (k + 1) 8 w hs hm (by omega) (by omega) (by omega) hk h0)
  have HX : Hid (theKeys[11 + k]? = some (sumOf (txtCli ++ be 8 (k + 1)))) := Lib.hid (by
    rw [key_cli k hk8, cliKey, keyI, if_neg (by omega)]
    congr 3)
  generalize sumOf (txtCli ++ be 8 (k + 1)) = d at H HX
  have e : ((k + 1 : Nat) : Int) = (k : Int) + 1 := by omega
  rw [← e]
  go_enter Tryd.func13, Tryd.ntmps13
  go_wp2_with (go_at_call 23; refine ((H _ rfl (by decide)).out).mono ?_; rintro E w1 ⟨g, rfl, h1, hb1⟩)
  go_ret
  exact ⟨g, d, rfl, Lib.hid ⟨HX.out, h1.out.mono fun _ _ _ => trivial⟩, hb1⟩

theorem filled_at (key : List UInt8) (j : Nat) : (filledOf key).getD j 0 = if j < (shortOf key).length then (shortOf key).getD j 0 else 0 := by
  rw [filledOf, List.getD_eq_getElem?_getD]
  split
  · rename_i h
    rw [List.getElem?_append_left h, List.getD_eq_getElem?_getD]
  · rename_i h
    rw [List.getElem?_append_right (by omega), List.getElem?_replicate]
    split <;> rfl

theorem tagKeys_all (W : World) (hk : KIs W) (h0 : 0 < W.heap.size) (A : Option Addr) (n c : Nat) (h : ∃ bs, Rd (fun _ => True) W A n bs ∧ Sl A n c) (y : n ≤ 140737488351232) (A' : Option Addr) (n' c' : Nat) (h' : ∃ bs, Rd (fun _ => True) W A' n' bs ∧ Sl A' n' c') (y' : n' ≤ 140737488351232)
    (i : Int) (hi : (Lit.int .u8 i).wf = true) (a : Int) (ha : (Lit.int .u8 a).wf = true) :
    Calls Tryd.prog 5 #[.slice A n c, .slice A' n' c', .int .u8 i, .int .u8 a] W fun E w' => E = .returned (.bool true) ∧ Below W.heap.size W w' := by
  obtain ⟨key, hr, hs⟩ := h
  obtain ⟨b, hr', hs'⟩ := h'
  obtain ⟨i, rfl⟩ := u8_of hi
  obtain ⟨m, rfl⟩ := u8_of ha
  have hi := i.toNat_lt
  have hm := m.toNat_lt
  by_cases hbig : 4096 < n + n'
  · exact keys_big _ _ A n c A' n' c' W works_any hk h0 (by omega) (by omega) hbig
  · obtain rfl : key.length = n := hr.1
    obtain rfl : b.length = n' := hr'.1
    have hsl := shortOf_length key
    have hrl : (repKey (1 + (i.toNat : Int) % 11)).length ≤ 32 := keyI_length _ _ _
    refine tagKeys_by key (shortOf key) (filledOf key) b (sumOf key) (sumOf (maskOf 0x36 (filledOf key) ++ b)) (hmac key b) (numTag (1 + (i.toNat : Int) % 11) m.toNat b) (repKey (1 + (i.toNat : Int) % 11)) (be 8 m.toNat) (repKey (1 + (i.toNat : Int) % 11)).length
      i.toNat m.toNat A key.length c A' b.length c' W (by omega) hi hm (sumOf_length _) (sumOf_length _) (hmac_length _ _) (numTag_length _ _ _) (filledOf_length key) hsl (filled_at key) hr hs hr' hs' works_any hk h0 ?_
      (fun w hr hk h0 => sum_any key A c w hr hs (by omega) hk h0) (fun Ak nk ck w hr hs hr' hk h0 => ?_) (fun w hr hr' hk h0 => of_any key b A _ c A' _ c' w hr hs hr' hs' (by omega) (by omega) hk h0) (fun A c w hr hs hk h0 => ?_) (fun A c w hr hs hk h0 => ?_)
      (fun k z w hz hk11 hk h0 => ?_) (fun k z w hz hk8 hk h0 => ?_) (fun w hr' hk h0 => numbered_any _ m.toNat b A' _ c' w hr' hs' (by omega) hk h0) (fun w hk h0 => replica_any _ w hk h0) (fun w => ?_) (fun A1 c1 A2 c2 w h1 h2 h3 h4 hk h0 => ?_)
    · by_cases h64 : 64 < key.length
      · exact .inr ⟨h64, if_pos h64⟩
      · exact .inl ⟨by omega, if_neg h64⟩
    · have hnk : nk ≤ 64 := by have := hr.1; omega
      have := of_any (shortOf key) b Ak nk ck A' _ c' w hr hs hr' hs' (by omega) (by omega) hk h0
      rwa [hmac_short] at this
    · have e : (maskOf 0x36 (filledOf key) ++ b).length = 64 + b.length := by rw [List.length_append, maskOf_length, filledOf_length]
      have := sum_any (maskOf 0x36 (filledOf key) ++ b) A c w (by rw [e]; exact hr) (by rw [e]; exact hs) (by rw [e]; omega) hk h0
      rwa [e] at this
    · have e : (maskOf 0x5c (filledOf key) ++ sumOf (maskOf 0x36 (filledOf key) ++ b)).length = 96 := by rw [List.length_append, maskOf_length, filledOf_length, sumOf_length]
      have := sum_any (maskOf 0x5c (filledOf key) ++ sumOf (maskOf 0x36 (filledOf key) ++ b)) A c w (by rw [e]; exact hr) (by rw [e]; exact hs) (by rw [e]; omega) hk h0
      rwa [e] at this
    · subst hz
      exact (rep_any k hk11 w hk h0)
    · subst hz
      exact (cli_any k hk8 w hk h0)
    · have := word_any none 0 0 [] m.toNat w (Rd.nil (fun _ => True) _ _) (by omega)
      refine this.mono fun e w' ⟨g, c', he, ho, hb⟩ => ⟨g, c', ?_, Lib.hid ?_, hb⟩
      · rw [he]
      · simpa using ho
    · exact of_any (repKey (1 + (i.toNat : Int) % 11)) (be 8 m.toNat ++ b) A1 _ c1 A2 _ c2 w h1 h2 h3 h4 (by omega) (by omega) hk h0
end Go.Proofs.YtfmmldpemdodkaaDoor
