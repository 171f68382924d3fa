/-
  What is proved: a slice of steps that came in reads as such; what Few answers. Conditions as stated.
-/
import Derived.Test.YthbbghkefekhfaaEh
import Derived.Test.YthbbghkefekhfaaDw
namespace Go.Proofs.Ythbbghkefekhfaa
open Go.RowKit Go.ChangeShapes Go.WideShapes Go.Deep

/-- A step of the law's: what it does, the sector, the byte, the number, the picks (where they lie, what they are). -/
structure Stp where
  todo : UInt8
  sec : Int
  byte : UInt8
  num : Int
  adr : Option Addr
  room : Nat
  picks : List UInt8
instance : Inhabited Stp := ⟨⟨0, 0, 0, 0, none, 0, []⟩⟩
def Stp.cells (x : Stp) : List Value := [.int .u8 (x.todo.toNat : Int), .int .i64 x.sec, .int .u8 (x.byte.toNat : Int), .int .i8 x.num, .slice x.adr x.picks.length x.room]
/-- .. and what holds of it, in memory. -/
def Stp.ok (w : World) (x : Stp) : Prop := I64 x.sec ∧ (-128 ≤ x.num ∧ x.num ≤ 127) ∧ Rd (fun _ => True) w x.adr x.picks.length x.picks ∧ Sl x.adr x.picks.length x.room
/-- The steps in memory, each its five cells. -/
def Steps (w : World) (A : Option Addr) (n : Nat) (xs : List Stp) : Prop :=
  xs.length = n ∧ (0 < n → ∃ b o, A = some ⟨b, o, none⟩ ∧ b < w.heap.size ∧ ∀ (j : Nat) (x : Stp), xs[j]? = some x → w.rangeAt b (o + j * 5) x.cells ∧ x.ok w)
theorem Try.cells32 : Try.prog.cellsOf 32 = 5 := by kernel_rfl
theorem Try.cells29 : Try.prog.cellsOf 29 = 1 := by kernel_rfl
theorem Try.cells30 : Try.prog.cellsOf 30 = 1 := by kernel_rfl
theorem Try.cells3 : Try.prog.cellsOf 3 = 1 := by kernel_rfl
theorem step_of {H : Type} {enc : TypeId × Value → H} {W : World} {base : Nat} {spare : Nat → Bool} {held : Bool} {n : Nat} {cs : List Value} {y : DataW H × List MemPlace}
    (h : DataW.trod enc Try.prog W base spare held n 32 cs = some y) : ∃ x : Stp, cs = x.cells ∧ x.ok W := by
  obtain ⟨ys, m, _, _, hlen, hys, hf⟩ := DataW.trod_struct Try.underlying32 h
  rw [Try.cells32] at hlen
  obtain ⟨c0, c1, c2, c3, c4, rfl⟩ : ∃ c0 c1 c2 c3 c4, cs = [c0, c1, c2, c3, c4] := by
    match cs, hlen with
    | [c0, c1, c2, c3, c4], _ => exact ⟨c0, c1, c2, c3, c4, rfl⟩
  have hy5 : ys.length = 5 := hys
  have e0 : DataW.trod enc Try.prog W base spare held m 5 (([c0, c1, c2, c3, c4].drop 0).take (Try.prog.cellsOf 5)) = ys[0]? := hf 0 _ rfl
  have e1 : DataW.trod enc Try.prog W base spare held m 3 (([c0, c1, c2, c3, c4].drop 1).take (Try.prog.cellsOf 3)) = ys[1]? := hf 1 _ rfl
  have e2 : DataW.trod enc Try.prog W base spare held m 5 (([c0, c1, c2, c3, c4].drop 2).take (Try.prog.cellsOf 5)) = ys[2]? := hf 2 _ rfl
  have e3 : DataW.trod enc Try.prog W base spare held m 29 (([c0, c1, c2, c3, c4].drop 3).take (Try.prog.cellsOf 29)) = ys[3]? := hf 3 _ rfl
  have e4 : DataW.trod enc Try.prog W base spare held m 30 (([c0, c1, c2, c3, c4].drop 4).take (Try.prog.cellsOf 30)) = ys[4]? := hf 4 _ rfl
  rw [Try.cells5, List.getElem?_eq_getElem (by omega)] at e0
  rw [Try.cells3, List.getElem?_eq_getElem (by omega)] at e1
  rw [Try.cells5, List.getElem?_eq_getElem (by omega)] at e2
  rw [Try.cells29, List.getElem?_eq_getElem (by omega)] at e3
  rw [Try.cells30, List.getElem?_eq_getElem (by omega)] at e4
  obtain ⟨k, h0, _, w0⟩ := DataW.trod_int Try.underlying5 e0
  obtain ⟨a, h1, _, w1⟩ := DataW.trod_int Try.underlying3 e1
  obtain ⟨b, h2, _, w2⟩ := DataW.trod_int Try.underlying5 e2
  obtain ⟨c, h3, _, w3⟩ := DataW.trod_int Try.underlying29 e3
  simp only [List.drop_zero, List.drop_succ_cons, List.take_succ_cons, List.take_zero, List.cons.injEq, and_true] at h0 h1 h2 h3 e4
  subst h0 h1 h2 h3
  have hV : ∃ A' n' c', c4 = .slice A' n' c' := by
    rcases open_ints Try.underlying30 Try.underlying5 (by kernel_rfl) e4 with ⟨hcs, _⟩ | ⟨x, l, cap, zs, hcs, _⟩
    · exact ⟨_, _, _, List.head_eq_of_cons_eq hcs⟩
    · exact ⟨_, _, _, List.head_eq_of_cons_eq hcs⟩
  obtain ⟨A', n', c', rfl⟩ := hV
  obtain ⟨bs, hr, hs⟩ := bytes_of (A := A') (n := n') (c := c') ⟨_, e4⟩
  obtain rfl : bs.length = n' := hr.1
  exact ⟨⟨UInt8.ofNat k.toNat, a, UInt8.ofNat b.toNat, c, A', c', bs⟩, by unfold Stp.cells; rw [← u8_of w0, ← u8_of w2], (show I64 a from i64_of (by have := bounds_i64 w1; omega)), bounds_i8 w3, hr, hs⟩

theorem steps_of {H : Type} {enc : TypeId × Value → H} {W : World} {base : Nat} {spare : Nat → Bool} {held : Bool} {A : Option Addr} {n c : Nat} {d : DataW H} {p : List MemPlace}
    (h : DataW.Trod enc Try.prog W base spare held 22 (.slice A n c) d p) : ∃ xs, Steps W A n xs ∧ Sl A n c := by
  obtain ⟨fuel, hf⟩ := h
  rcases open_slice Try.underlying22 hf with ⟨hcs, _⟩ | ⟨a, len, cap, m, k, D, Pl, hcs, _, hlc, hcm, hm, _, hx⟩
  · simp [Value.cells] at hcs
    obtain ⟨rfl, rfl, rfl⟩ := hcs
    exact ⟨[], ⟨rfl, fun h => absurd h (by omega)⟩, ⟨fun _ => ⟨rfl, rfl⟩, Nat.le_refl _, by omega⟩⟩
  · simp [Value.cells] at hcs
    obtain ⟨rfl, rfl, rfl⟩ := hcs
    rw [Try.cells32] at hx
    have hnm : n ≤ m := by rw [hm]; split <;> omega
    have hx' : ∀ i, i < n → ∃ x : Stp, (∀ j v, x.cells[j]? = some v → W.cell? ((a.add (i * 5)).add j) = some v) ∧ x.ok W := by
      intro i hi
      obtain ⟨cs', hc, ht⟩ := hx i (by omega)
      obtain ⟨hl, _, hcell⟩ := World.cells?_some hc
      obtain ⟨x, rfl, hok⟩ := step_of ht
      refine ⟨x, fun j v hv => ?_, hok⟩
      have hj : j < 5 := (List.getElem?_eq_some_iff.1 hv).1
      rw [hcell j hj]
      exact hv
    obtain ⟨F, hF⟩ := choose_lt (α := Stp) (p := fun i x => (∀ j v, x.cells[j]? = some v → W.cell? ((a.add (i * 5)).add j) = some v) ∧ x.ok W) hx'
    refine ⟨(List.range n).map F, ⟨by simp, fun hp => ?_⟩, ⟨(fun h => by cases h), hlc, by unfold maxLen at hcm; omega⟩⟩
    obtain ⟨b, off, spot⟩ := a
    have h00 := (hF 0 hp).1 0 _ rfl
    have hspot : spot = none := by simpa [Addr.add] using World.cell?_spot h00
    subst hspot
    refine ⟨b, off, rfl, ?_, fun j u hu => ?_⟩
    · rw [add_plain2] at h00
      exact World.block_lt_of_cell? W _ h00
    · rw [List.getElem?_map] at hu
      obtain ⟨z, hz1, rfl⟩ := Option.map_eq_some_iff.1 hu
      obtain ⟨hj, rfl⟩ := List.getElem?_eq_some_iff.1 hz1
      simp at hj
      obtain ⟨h1, h2⟩ := hF j hj
      simp
      refine ⟨fun i v hv => ?_, h2⟩
      have := h1 i v hv
      rwa [add_plain2] at this

def fewOf (xs : List Stp) (most : Int) : Bool := decide ((xs.length : Int) ≤ most) && xs.all fun x => decide (x.picks.length ≤ 200)
set_option maxRecDepth 100000 in
theorem few_any {w : World} (A : Option Addr) (n c : Nat) (xs : List Stp) (hx : Steps w A n xs) (hs : Sl A n c) (most : Int) (hmn : most < 1000000) :
    Calls Try.prog 8 #[.slice A n c, .int .i64 most] w fun E w' => E = .returned (.bool (fewOf xs most)) ∧ w' = w := by
  have HX := Lib.hid hx
  have hsc := hs.2
  have hl := hx.1
  unfold fewOf
  rw [hl]
  clear hx
  by_cases hb : most < (n : Int)
  · rw [show decide ((n : Int) ≤ most) = false by simp; omega]
    rw [Bool.false_and]
    go_enter Try.func8, Try.ntmps8
    go_wp2
    go_ret
    exact ⟨rfl, rfl⟩
  · rw [show decide ((n : Int) ≤ most) = true by simp; omega, Bool.true_and]
    have hn : n < 1000000 := by omega
    go_enter Try.func8, Try.ntmps8
    go_wp2
    go_loopw [5] (fun v5 wr => ∃ k : Nat, k ≤ n ∧ v5 = .int .i64 (k : Int) ∧ (∀ x ∈ xs.take k, x.picks.length ≤ 200) ∧ wr = w) (fun v5 _ => n - (intOf v5).toNat)
    case atStart => exact ⟨0, Nat.zero_le _, rfl, fun x hx => (by simp at hx), rfl⟩
    case round =>
      obtain ⟨k, hkn, rfl, hall, rfl⟩ := hrel
      have HALL := Lib.hid hall
      clear hall
      by_cases hk : k = n
      · subst hk
        have e : (xs.all fun x => decide (x.picks.length ≤ 200)) = true := by
          rw [List.all_eq_true]
          intro x hx
          simpa using HALL.out x (by rw [← hl, List.take_length]; exact hx)
        have HE := Lib.hid e
        clear e
        go_wp2
        go_ret
        exact ⟨by rw [HE.out]; rfl, rfl⟩
      · obtain ⟨b, o, rfl, hb', hc⟩ := HX.out.2 (by omega)
        obtain ⟨x, hq⟩ : ∃ x, xs[k]? = some x := ⟨_, List.getElem?_eq_getElem (by omega)⟩
        obtain ⟨hcx, _, _, _, hsx⟩ := hc k x hq
        have c4 : wr.cell? ⟨b, o + k * 5 + 4, none⟩ = some (.slice x.adr x.picks.length x.room) := hcx 4 _ rfl
        have hxc := hsx.2
        have HQ := Lib.hid hq
        clear hc hcx hq hsx
        by_cases hg : 200 < x.picks.length
        · have e : (xs.all fun x => decide (x.picks.length ≤ 200)) = false := by
            rw [List.all_eq_false]
            exact ⟨x, List.mem_of_getElem? HQ.out, by simp; omega⟩
          have HE := Lib.hid e
          clear e
          go_wp2
          go_ret
          exact ⟨by rw [HE.out]; rfl, rfl⟩
        · go_wp2_with fail
          go_roundw
          case measure => simp [intOf]; omega
          case rel =>
            refine ⟨k + 1, by omega, by go_num, fun y hy => ?_, trivial⟩
            rw [List.take_add_one, HQ.out] at hy
            rcases List.mem_append.1 hy with hy | hy
            · exact HALL.out y hy
            · simp at hy; subst hy; omega
end Go.Proofs.Ythbbghkefekhfaa
