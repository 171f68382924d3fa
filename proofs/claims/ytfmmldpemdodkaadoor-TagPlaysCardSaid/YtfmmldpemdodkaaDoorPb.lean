/-
  What is proved: what TagPlays answers, whatever comes in. Conditions as stated.
-/
import Derived.Test.YtfmmldpemdodkaaDoorPa
namespace Go.Proofs.YtfmmldpemdodkaaDoor
open Go.RowKit

theorem plays_big (i nn : Int) (A : Option Addr) (n c : Nat) (A' : Option Addr) (n' c' : Nat) (w : World) (hW : Works) (hk : KIs w) (h0 : 0 < w.heap.size) (h1 : n ≤ 140737488351232) (h2 : n' ≤ 140737488351232) (h : 4096 < n + n') :
    Calls Tryd.prog 3 #[.slice A n c, .slice A' n' c', .int .i64 i, .int .u64 nn] w fun E w' => E = .returned (.bool true) ∧ Below w.heap.size w w' := by
  have HK := Lib.hid hk
  have HW := Lib.hid hW
  clear hk hW
  go_enter Tryd.func3, Tryd.ntmps3
  go_wp2_with (first
    | (go_at_call 8; refine (HW.out w HK.out h0).mono ?_; rintro E w4 ⟨rfl, hb4⟩))
  go_ret
  exact ⟨rfl, hb4⟩

theorem tagPlays_all (W : World) (hk : KIs W) (h0 : 0 < W.heap.size) (A : Option Addr) (n c : Nat) (h : ∃ bs, Rd (fun _ => True) W A n bs ∧ Sl A n c) (y : n ≤ 140737488351232) (A' : Option Addr) (n' c' : Nat) (h' : ∃ bs, Rd (fun _ => True) W A' n' bs ∧ Sl A' n' c') (y' : n' ≤ 140737488351232)
    (i : Int) (_hi : (Lit.int .i64 i).wf = true) (a : Int) (ha : (Lit.int .u64 a).wf = true) :
    Calls Tryd.prog 3 #[.slice A n c, .slice A' n' c', .int .i64 i, .int .u64 a] W fun E w' => E = .returned (.bool true) ∧ Below W.heap.size W w' := by
  obtain ⟨key, hr, hs⟩ := h
  obtain ⟨b, hr', hs'⟩ := h'
  obtain ⟨m, rfl⟩ := u64_of ha
  by_cases hbig : 4096 < n + n'
  · exact plays_big _ _ A n c A' n' c' W works_any hk h0 y y' hbig
  · have hso : Sl (some ⟨W.heap.size, 0, none⟩) n (n + 80) := ⟨(fun e => by cases e), by omega, by omega⟩
    refine tagPlays_by key b (hmac key b) (numTag i m b) (repKey i) (cliKey i) A n c A' n' c' i m W (by omega) (hmac_length _ _) (numTag_length _ _ _) hr hs hr' hs' works_any hk h0
      (fun A1 c1 wx F => of_any key b _ n (n + 80) A1 n' c1 wx F.own hso F.it F.isl (by omega) (by omega) (hk.below F.bel h0) (Nat.lt_of_lt_of_le h0 F.bel.size))
      (fun A1 c1 wx F => refOf_any key b A n c A' n' c' wx (by omega) (by omega) (hr.below F.bel (fun _ h _ => h)) hs (hr'.below F.bel (fun _ h _ => h)) hs' (hk.below F.bel h0) (Nat.lt_of_lt_of_le h0 F.bel.size))
      (fun wx hk h0 => (replica_any i wx hk h0).mono fun E w' ⟨A, c, he, hx, hb⟩ => ⟨A, c, he, Lib.hid (hx.out.1.mono fun _ _ _ => trivial), hb⟩)
      (fun wx hk h0 => (refReplica_any i wx hk h0).mono fun E w' ⟨A, c, he, hx, hb⟩ => ⟨A, c, he, Lib.hid (hx.out.1.mono fun _ _ _ => trivial), hb⟩)
      (fun wx hk h0 => (client_any i wx hk h0).mono fun E w' ⟨A, c, he, hx, hb⟩ => ⟨A, c, he, Lib.hid (hx.out.1.mono fun _ _ _ => trivial), hb⟩)
      (fun wx hk h0 => (refClient_any i wx hk h0).mono fun E w' ⟨A, c, he, hx, hb⟩ => ⟨A, c, he, Lib.hid (hx.out.1.mono fun _ _ _ => trivial), hb⟩)
      (fun A1 c1 wx F => numbered_any i m b A1 n' c1 wx F.it F.isl (by omega) (hk.below F.bel h0) (Nat.lt_of_lt_of_le h0 F.bel.size))
      (fun A1 c1 wx F => refNumbered_any i m b A' n' c' wx (hr'.below F.bel (fun _ h _ => h)) hs' (by omega) (hk.below F.bel h0) (Nat.lt_of_lt_of_le h0 F.bel.size))
end Go.Proofs.YtfmmldpemdodkaaDoor
