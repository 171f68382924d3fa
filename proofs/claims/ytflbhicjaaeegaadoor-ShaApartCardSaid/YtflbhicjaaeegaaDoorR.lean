/-
  What is proved: words on bytes that are read, and on a row into which is copied. Conditions as stated.
-/
import Derived.Test.YtflbhicjaaeegaaDoorF
namespace Go.Proofs.YtflbhicjaaeegaaDoor
open Go.RowKit

/-- The slice at A of length n reads as the bytes bs, and lies in no block that P names. -/
def Rd (P : Nat → Prop) (w : World) (A : Option Addr) (n : Nat) (bs : List UInt8) : Prop :=
  bs.length = n ∧ (0 < n → ∃ b o, A = some ⟨b, o, none⟩ ∧ b < w.heap.size ∧ P b ∧ ∀ j u, bs[j]? = some u → w.cell? ⟨b, o + j, none⟩ = some (.int .u8 (u.toNat : Int)))
/-- A slice's shape. -/
def Sl (A : Option Addr) (n c : Nat) : Prop := (A = none → n = 0 ∧ c = 0) ∧ n ≤ c ∧ c ≤ 9223372036854775807

theorem Rd.mono {P Q : Nat → Prop} {w : World} {A : Option Addr} {n : Nat} {bs : List UInt8} (h : Rd P w A n bs) (hq : ∀ b, b < w.heap.size → P b → Q b) : Rd Q w A n bs :=
  ⟨h.1, fun hn => let ⟨b, o, e, hb, hp, hc⟩ := h.2 hn; ⟨b, o, e, hb, hq b hb hp, hc⟩⟩
theorem Rd.nil (P : Nat → Prop) (w : World) (A : Option Addr) : Rd P w A 0 [] := ⟨rfl, fun h => absurd h (by omega)⟩
theorem Rd.below {P : Nat → Prop} {B : Nat} {w w' : World} {A : Option Addr} {n : Nat} {bs : List UInt8} (h : Rd P w A n bs) (hb : Below B w w') (hB : ∀ b, b < w.heap.size → P b → b < B) : Rd P w' A n bs := by
  refine ⟨h.1, fun hn => ?_⟩
  obtain ⟨b, o, hA, hlt, hp, hc⟩ := h.2 hn
  exact ⟨b, o, hA, Nat.lt_of_lt_of_le hlt hb.size, hp, fun j u hu => (hb.cell (p := ⟨b, o + j, none⟩) (hB b hlt hp)).trans (hc j u hu)⟩
theorem Rd.grown {g : Nat} {P : Nat → Prop} {w w' : World} {A : Option Addr} {n : Nat} {bs : List UInt8} (h : Rd P w A n bs) (hb : w.grownBy w' (some g)) (hB : ∀ b, P b → b ≠ g) : Rd P w' A n bs := by
  refine ⟨h.1, fun hn => ?_⟩
  obtain ⟨b, o, hA, hlt, hp, hc⟩ := h.2 hn
  exact ⟨b, o, hA, Nat.lt_of_lt_of_le hlt hb.size, hp, fun j u hu => hb.cell (hc j u hu) (fun e => hB b hp (Option.some.inj e))⟩
theorem Rd.drewN {P : Nat → Prop} {w : World} {A : Option Addr} {n : Nat} {bs : List UInt8} (h : Rd P w A n bs) (q : Nat) : Rd P (w.drewN q) A n bs := h
theorem add_lit (b o k : Nat) : (⟨b, o, none⟩ : Addr).add k = ⟨b, o + k, none⟩ := by unfold Addr.add; split <;> simp_all
theorem Rd.cut {P : Nat → Prop} {w : World} {A : Option Addr} {n c k : Nat} {all : List UInt8} (h : Rd P w A n all) (hk : k ≤ n) (hc : n ≤ c) :
    Rd P w (if c = k then A else A.map (·.add k)) (n - k) (all.drop k) := by
  refine ⟨by rw [List.length_drop, h.1], fun hn => ?_⟩
  obtain ⟨b, o, rfl, hb, hp, hcell⟩ := h.2 (by omega)
  rw [if_neg (by omega)]
  refine ⟨b, o + k, by simp [add_lit], hb, hp, fun j u hu => ?_⟩
  rw [Nat.add_assoc]
  exact hcell _ u (by rw [← hu, List.getElem?_drop])
theorem Sl.cut {A : Option Addr} {n c k m : Nat} (h : Sl A n c) (hk : k + m ≤ n) : Sl (if c = k then A else A.map (·.add k)) m (c - k) := by
  obtain ⟨h1, h2, h3⟩ := h
  refine ⟨fun he => ?_, by omega, by omega⟩
  split at he
  · obtain ⟨rfl, rfl⟩ := h1 he
    omega
  · have : A = none := by simpa using he
    obtain ⟨rfl, rfl⟩ := h1 this
    omega

theorem gb_trans {a w w' : World} {row : Option Nat} (h : a.grownBy w row) (k : w.grownBy w' row) : a.grownBy w' row :=
  ⟨k.os.trans h.os, k.tape.trans h.tape, k.output.trans h.output, Nat.le_trans h.size k.size, fun i hi hr => (k.block i (Nat.lt_of_lt_of_le hi h.size) hr).trans (h.block i hi hr)⟩
theorem gb_drewN (w : World) (q : Nat) (row : Option Nat) : w.grownBy (w.drewN q) row := ⟨rfl, rfl, rfl, Nat.le_refl _, fun _ _ _ => rfl⟩
theorem gb_below {w w' : World} (h : Below w.heap.size w w') (row : Option Nat) : w.grownBy w' row := ⟨h.os, h.tape, h.output, h.size, fun k hk _ => h.block k hk⟩
theorem gb_set (w : World) (g i : Nat) (v : Value) : w.grownBy (w.setCell ⟨g, i, none⟩ v) (some g) :=
  ⟨rfl, rfl, rfl, by simp [World.setCell], fun k _ hr => Below.heap_setCell w ⟨g, i, none⟩ v k (fun e => hr (by rw [e]))⟩
theorem gb_setCells (g : Nat) : ∀ (vs : List Value) (o : Nat) (w : World), w.grownBy (w.setCells g o vs) (some g)
  | [], _, w => World.grownBy.refl w _
  | v :: r, o, w => gb_trans (gb_set w g o v) (gb_setCells g r (o + 1) _)
theorem gb_setRow (w : World) (g : Nat) (cs : Array Value) : w.grownBy (w.setRow g cs) (some g) :=
  ⟨rfl, rfl, rfl, by simp [World.setRow], fun k _ hr => setRow_other w g k cs (fun e => hr (by rw [e]))⟩

/-- copy into a row: what the row holds behind it; no other one has turned. -/
theorem wpList_copy_grown {P : Program} {w : World} {ops : Array Oper} {rest : List Oper} {o : Oper} {a : Act} {Q : Exit → Act → World → Prop} (hgd : o.guard = none) (d s : Operand) (dT sT : TypeId)
    (ho : o.op = .call { callee := .builtin .copy, args := #[d, s], argTypes := #[dT, sT] }) (elem : TypeId) (hu : P.underlying dT = some (.slice elem)) (hsz : (P.info? elem).map (·.size) = some 1)
    (dp sp : Option Addr) (dLen dCap sLen sCap : Nat) (hd : a.eval d = .slice dp dLen dCap) (hs : a.eval s = .slice sp sLen sCap)
    (g off : Nat) (cur : List Value) (t : TypeId) (hg : w.heap[g]? = some (.cells cur.toArray t (0, 0))) (cs : List Value) (hn : cs.length = Nat.min sLen dLen)
    (hpos : 0 < cs.length → dp = some ⟨g, off, none⟩ ∧ ∃ ad, sp = some ad ∧ ∀ j v, cs[j]? = some v → w.cell? (ad.add j) = some v)
    (hfit : off + cs.length ≤ cur.length) (h1 : ∀ v ∈ cs, v.oneCell' = true)
    (h : ∀ w', Hid (w'.heap[g]? = some (.cells (splice cur off cs).toArray t (0, 0)) ∧ w.grownBy w' (some g)) → wpList P ops Q rest (a.put o.dst (goInt cs.length)) w') :
    wpList P ops Q (o :: rest) a w := by
  by_cases h0 : cs.length = 0
  · obtain rfl : cs = [] := List.eq_nil_of_length_eq_zero h0
    refine wpList_copy_nothing hgd d s dT sT ho elem hu hsz dp sp dLen dCap sLen sCap hd hs (by simpa using hn.symm) ?_
    exact h w (Lib.hid ⟨by simpa [splice] using hg, World.grownBy.refl w _⟩)
  · obtain ⟨rfl, ad, rfl, hsrc⟩ := hpos (by omega)
    refine wpList_copy_own hgd d s dT sT ho elem hu hsz g off dLen dCap ad sLen sCap hd hs cur.toArray t hg cs hn hsrc (by simpa using hfit) h1 ?_
    exact h _ (Lib.hid ⟨by simpa [splice] using setRow_heap w g _ _ t _ hg, gb_setRow w g _⟩)

/-! The cells of a hash, one by one. -/
theorem hcells_length {nums : List UInt32} {blk : List UInt8} (hn : nums.length = 8) (hb : blk.length = 64) (f n : Nat) : (hcells nums blk f n).length = 74 := by simp [hcells, u32s_length, u8s_length, hn, hb]
theorem hcells_72 {nums : List UInt32} {blk : List UInt8} (hn : nums.length = 8) (hb : blk.length = 64) (f n : Nat) : (hcells nums blk f n)[72]? = some (.int .i64 (f : Int)) := by
  simp [hcells, u32s_length, u8s_length, hn, hb]
theorem hcells_73 {nums : List UInt32} {blk : List UInt8} (hn : nums.length = 8) (hb : blk.length = 64) (f n : Nat) : (hcells nums blk f n)[73]? = some (.int .u64 (n : Int)) := by
  simp [hcells, u32s_length, u8s_length, hn, hb]
theorem hcells_set72 {nums : List UInt32} {blk : List UInt8} (hn : nums.length = 8) (hb : blk.length = 64) (f n f' : Nat) : (hcells nums blk f n).set 72 (.int .i64 (f' : Int)) = hcells nums blk f' n := by
  simp [hcells, u32s_length, u8s_length, hn, hb]
theorem hcells_set73 {nums : List UInt32} {blk : List UInt8} (hn : nums.length = 8) (hb : blk.length = 64) (f n n' : Nat) : (hcells nums blk f n).set 73 (.int .u64 (n' : Int)) = hcells nums blk f n' := by
  simp [hcells, u32s_length, u8s_length, hn, hb]
theorem hcells_splice {nums : List UInt32} {blk : List UInt8} (hn : nums.length = 8) (hb : blk.length = 64) (f n r : Nat) (ys : List UInt8) (hr : r + ys.length ≤ 64) :
    splice (hcells nums blk f n) (8 + r) (u8s ys) = hcells nums (splice blk r ys) f n := by
  have h1 : (u32s nums).length = 8 := by rw [u32s_length, hn]
  have h2 : (u8s blk).length = 64 := by rw [u8s_length, hb]
  have h3 : (u8s ys).length = ys.length := u8s_length ys
  unfold hcells splice
  rw [List.take_append, List.drop_append, h1, List.take_append, List.drop_append, h2, h3]
  rw [List.take_of_length_le (l := u32s nums) (by omega), List.drop_of_length_le (l := u32s nums) (by omega)]
  rw [show 8 + r - 8 = r by omega, show r - 64 = 0 by omega, show 8 + r + ys.length - 8 = r + ys.length by omega, show r + ys.length - 64 = 0 by omega]
  simp [u8s]

theorem heap_set {w : World} {g k : Nat} {C : List Value} {t : TypeId} (h : w.heap[g]? = some (.cells C.toArray t (0, 0))) (v : Value) : (w.setCell ⟨g, k, none⟩ v).heap[g]? = some (.cells (C.set k v).toArray t (0, 0)) := by
  simp [World.setCell, Array.getElem?_modify, h]
theorem free_block {w : World} {g : Nat} {C : Array Value} {t : TypeId} (h : w.heap[g]? = some (.cells C t (0, 0))) (k : Nat) : w.frozen? ⟨g, k, none⟩ = false := by
  simp only [World.frozen?, h]
  simp
end Go.Proofs.YtflbhicjaaeegaaDoor
