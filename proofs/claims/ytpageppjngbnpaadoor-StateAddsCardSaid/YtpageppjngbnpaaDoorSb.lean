import Derived.WalkKit
import Derived.KernelRfl
import Derived.Test.YtpageppjngbnpaaDoorProg
import Derived.Test.YtpageppjngbnpaaDoorRows
import Derived.WalkSpells
import Derived.WalkLawsBesides
import Derived.Laws.BitsAllLaws
import Derived.Laws.CopyOwn
import Derived.Lib.Hide
import Derived.IntWalk
import Derived.Deep.DeepMust
import Derived.Deep.QuietTactic
import Derived.BigQuiet
import Derived.Deep.WholeRow
import Derived.Deep.MidRow
import Derived.StillTailTactics
import Derived.Deep.RegionHeld3
import Derived.ChangeKeysEq
import Derived.Lib.QuietBelow
import Derived.Great.BuildSlice
import Derived.Lib.AppendStr
import Derived.Laws.BytesArg
import Derived.Deep.RegionHeld
import Derived.RegionTactic
import Derived.Laws.OwnMore
import Derived.Deep.Cut
import Derived.Deep.RegionLaw
import Derived.ProofKit
import Derived.OpenShut
import Derived.Deep.Slices
import Derived.Lib.LaidTab
import Derived.SizedLaws
namespace Go.Proofs.YtpageppjngbnpaaDoor.Sh
set_option maxRecDepth 100000
open Go.RowKit Go.Sort Go.ChangeShapes Go.WideShapes Go.Deep
def rotr (x n : UInt32) : UInt32 := (x >>> n) ||| (x <<< (32 - n))
structure S8 where
  a : UInt32
  b : UInt32
  c : UInt32
  d : UInt32
  e : UInt32
  f : UInt32
  g : UInt32
  h : UInt32
def S8.list (s : S8) : List UInt32 := [s.a, s.b, s.c, s.d, s.e, s.f, s.g, s.h]
def tOf (s : S8) (k w : UInt32) : UInt32 := s.h + (rotr s.e 6 ^^^ rotr s.e 11 ^^^ rotr s.e 25) + ((s.e &&& s.f) ^^^ (~~~s.e &&& s.g)) + k + w
def uOf (s : S8) : UInt32 := (rotr s.a 2 ^^^ rotr s.a 13 ^^^ rotr s.a 22) + ((s.a &&& s.b) ^^^ (s.a &&& s.c) ^^^ (s.b &&& s.c))
def rnd (k w : UInt32) (s : S8) : S8 := ⟨tOf s k w + uOf s, s.a, s.b, s.c, s.d + tOf s k w, s.e, s.f, s.g⟩
def rnds (ks ws : List UInt32) (s : S8) : Nat → S8
  | 0 => s
  | n + 1 => rnd (ks.getD n 0) (ws.getD n 0) (rnds ks ws s n)
def s0 (x : UInt32) : UInt32 := rotr x 7 ^^^ rotr x 18 ^^^ (x >>> 3)
def s1 (x : UInt32) : UInt32 := rotr x 17 ^^^ rotr x 19 ^^^ (x >>> 10)
def word (b0 b1 b2 b3 : UInt8) : UInt32 := (b0.toUInt32 <<< 24) ||| (b1.toUInt32 <<< 16) ||| (b2.toUInt32 <<< 8) ||| b3.toUInt32
def wordAt (b : List UInt8) (i : Nat) : UInt32 := word (b.getD (4 * i) 0) (b.getD (4 * i + 1) 0) (b.getD (4 * i + 2) 0) (b.getD (4 * i + 3) 0)
def words (b : List UInt8) (n : Nat) : List UInt32 := (List.range n).map (wordAt b)
def nextW (l : List UInt32) (n : Nat) : UInt32 := l.getD n 0 + s0 (l.getD (n + 1) 0) + l.getD (n + 9) 0 + s1 (l.getD (n + 14) 0)
def sched (b : List UInt8) : Nat → List UInt32
  | 0 => words b 16
  | n + 1 => sched b n ++ [nextW (sched b n) n]
def K : List UInt32 := [0x428a2f98, 0x71374491, 0xb5c0fbcf, 0xe9b5dba5, 0x3956c25b, 0x59f111f1, 0x923f82a4, 0xab1c5ed5,
  0xd807aa98, 0x12835b01, 0x243185be, 0x550c7dc3, 0x72be5d74, 0x80deb1fe, 0x9bdc06a7, 0xc19bf174,
  0xe49b69c1, 0xefbe4786, 0x0fc19dc6, 0x240ca1cc, 0x2de92c6f, 0x4a7484aa, 0x5cb0a9dc, 0x76f988da,
  0x983e5152, 0xa831c66d, 0xb00327c8, 0xbf597fc7, 0xc6e00bf3, 0xd5a79147, 0x06ca6351, 0x14292967,
  0x27b70a85, 0x2e1b2138, 0x4d2c6dfc, 0x53380d13, 0x650a7354, 0x766a0abb, 0x81c2c92e, 0x92722c85,
  0xa2bfe8a1, 0xa81a664b, 0xc24b8b70, 0xc76c51a3, 0xd192e819, 0xd6990624, 0xf40e3585, 0x106aa070,
  0x19a4c116, 0x1e376c08, 0x2748774c, 0x34b0bcb5, 0x391c0cb3, 0x4ed8aa4a, 0x5b9cca4f, 0x682e6ff3,
  0x748f82ee, 0x78a5636f, 0x84c87814, 0x8cc70208, 0x90befffa, 0xa4506ceb, 0xbef9a3f7, 0xc67178f2]
def first8 (l : List UInt32) : S8 := ⟨l.getD 0 0, l.getD 1 0, l.getD 2 0, l.getD 3 0, l.getD 4 0, l.getD 5 0, l.getD 6 0, l.getD 7 0⟩
def mixedOf (h : List UInt32) (b : List UInt8) : List UInt32 := (rnds K (sched b 48) (first8 h) 64).list
def blockOf (h : List UInt32) (b : List UInt8) : List UInt32 := List.zipWith (· + ·) h (mixedOf h b)
def H0 : List UInt32 := [0x6a09e667, 0xbb67ae85, 0x3c6ef372, 0xa54ff53a, 0x510e527f, 0x9b05688c, 0x1f83d9ab, 0x5be0cd19]
def absN : Nat → List UInt32 → List UInt8 → List UInt32
  | 0, h, _ => h
  | n + 1, h, b => absN n (blockOf h (b.take 64)) (b.drop 64)
def absorb (b : List UInt8) : List UInt32 := absN (b.length / 64) H0 b
def u32 (x : UInt32) : Value := .int .u32 (x.toNat : Int)
theorem b_or (a b : UInt32) : bits .or .u32 (a.toNat : Int) (b.toNat : Int) = ((a ||| b).toNat : Int) := by
  rw [u32_or_nat _ _ a.toNat_lt b.toNat_lt, UInt32.toNat_or]
theorem bits_or_comm (a b : Int) : bits .or .u32 a b = bits .or .u32 b a := by
  show IntKind.u32.wrap ((BitVec.ofInt 32 a ||| BitVec.ofInt 32 b).toNat : Int) = IntKind.u32.wrap ((BitVec.ofInt 32 b ||| BitVec.ofInt 32 a).toNat : Int)
  rw [BitVec.or_comm]
theorem sh2 (x : UInt32) : bits .or .u32 ((x.toNat : Int) / 4) ((x.toNat : Int) * 1073741824 % 4294967296) = ((rotr x 2).toNat : Int) := by
  have h1 : (x.toNat : Int) / (4 : Int) = ((x >>> 2).toNat : Int) := by
    rw [UInt32.toNat_shiftRight, show ((2 : UInt32).toNat % 32) = 2 from rfl, Nat.shiftRight_eq_div_pow]; rfl
  have h2 : (x.toNat : Int) * (1073741824 : Int) % (4294967296 : Int) = ((x <<< (32 - 2)).toNat : Int) := by
    rw [UInt32.toNat_shiftLeft, show ((32 - 2 : UInt32).toNat % 32) = 30 from rfl, Nat.shiftLeft_eq]; rfl
  rw [h1, h2, b_or]; rfl
theorem hs2 (x : UInt32) : bits .or .u32 ((x.toNat : Int) * 1073741824 % 4294967296) ((x.toNat : Int) / 4) = ((rotr x 2).toNat : Int) := by
  rw [← sh2, bits_or_comm]
def u32s (l : List UInt32) : List Value := l.map u32
def KIs (w : World) : Prop := ∀ i : Nat, i < 0 → w.cell? ⟨0, i, none⟩ = some (.int .u32 ((K.getD i 0).toNat : Int))
theorem ret_range {P : Program} {fn : Func} {p : Tmp} {ty : TypeId} (h : fn.results = #[.cell p ty]) {tmps : Array Value} {w : World} {g : Nat} {cs : List Value} {d : TypeDesc}
    (hp : tmps.getD p undef = .pointer (some ⟨g, 0, none⟩)) (hc : w.rangeAt g 0 cs) (hu : P.underlying ty = some d) (hd : d.isRow = true) (hi : (P.info? ty).map (·.size) = some cs.length) :
    (results fn tmps).run P w = .ok (.agg cs.toArray) w := by
  have hp' : tmps[p]?.getD undef = .pointer (some ⟨g, 0, none⟩) := by simpa using hp
  simp [results, h, hp', asAddr, run_loadVar_mid w g 0 ty cs d hc hu hd hi]
theorem below_drewN {B : Nat} {a w : World} (h : Below B a w) (q : Nat) : Below B a (w.drewN q) := ⟨h.os, h.tape, h.output, h.size, h.block⟩
theorem wpList_store_cells {P : Program} {ops : Array Oper} {rest : List Oper} {op : Oper} {a : Act} {w : World} {Q : Exit → Act → World → Prop} (hgd : op.guard = none) (ty : TypeId) (x y : Operand) (ho : op.op = .store ty x y)
    (b o : Nat) (cs : List Value) (hx : a.eval x = .pointer (some ⟨b, o, none⟩)) (hy : a.eval y = .agg cs.toArray)
    (ht : w.there b o cs.length) (hi : (P.info? ty).map (·.size) = some cs.length) (h1 : ∀ v ∈ cs, v.oneCell' = true)
    (h : wpList P ops Q rest (a.put op.dst undef) (w.setCells b o cs)) : wpList P ops Q (op :: rest) a w :=
  wpList_store_mid hgd ty x y ho b o cs.toArray hx hy (by simpa using ht) (by simpa using hi) (all_oneCell_toArray h1) (by simpa using h)
def u8s (bs : List UInt8) : List Value := bs.map fun b => Value.int .u8 (b.toNat : Int)
theorem u8s_length (l : List UInt8) : (u8s l).length = l.length := by simp [u8s]
theorem u8s_one (l : List UInt8) : ∀ v ∈ u8s l, v.oneCell' = true := by
  intro v hv
  simp only [u8s, List.mem_map] at hv
  obtain ⟨x, _, rfl⟩ := hv
  rfl
def hcells (nums : List UInt32) (blk : List UInt8) (f n : Nat) : List Value := u32s nums ++ (u8s blk ++ [.int .i64 (f : Int), .int .u64 (n : Int)])
def HashIs (w : World) (g : Nat) (xs : List UInt8) (L : Nat) : Prop :=
  ∃ blk : List UInt8, blk.length = 64 ∧ blk.take (xs.length % 64) = xs.drop (64 * (xs.length / 64)) ∧ w.heap[g]? = some (.cells (hcells (absorb xs) blk (xs.length % 64) L).toArray 122 (0, 0))
theorem HashIs.below {B g L : Nat} {w w' : World} {xs : List UInt8} (h : HashIs w g xs L) (hb : Below B w w') (hB : g < B) : HashIs w' g xs L :=
  let ⟨blk, h1, h2, h3⟩ := h
  ⟨blk, h1, h2, (hb.block g hB).trans h3⟩
theorem HashIs.lt {g L : Nat} {w : World} {xs : List UInt8} (h : HashIs w g xs L) : g < w.heap.size :=
  let ⟨_, _, _, h3⟩ := h
  (Array.getElem?_eq_some_iff.1 h3).1
def Rd (P : Nat → Prop) (w : World) (A : Option Addr) (n : Nat) (bs : List UInt8) : Prop :=
  bs.length = n ∧ (0 < n → ∃ b o, A = some ⟨b, o, none⟩ ∧ b < w.heap.size ∧ P b ∧ ∀ j u, bs[j]? = some u → w.cell? ⟨b, o + j, none⟩ = some (.int .u8 (u.toNat : Int)))
def Sl (A : Option Addr) (n c : Nat) : Prop := (A = none → n = 0 ∧ c = 0) ∧ n ≤ c ∧ c ≤ 9223372036854775807
theorem Rd.mono {P Q : Nat → Prop} {w : World} {A : Option Addr} {n : Nat} {bs : List UInt8} (h : Rd P w A n bs) (hq : ∀ b, b < w.heap.size → P b → Q b) : Rd Q w A n bs :=
  ⟨h.1, fun hn => let ⟨b, o, e, hb, hp, hc⟩ := h.2 hn; ⟨b, o, e, hb, hq b hb hp, hc⟩⟩
theorem Rd.nil (P : Nat → Prop) (w : World) (A : Option Addr) : Rd P w A 0 [] := ⟨rfl, fun h => absurd h (by omega)⟩
theorem Rd.below {P : Nat → Prop} {B : Nat} {w w' : World} {A : Option Addr} {n : Nat} {bs : List UInt8} (h : Rd P w A n bs) (hb : Below B w w') (hB : ∀ b, b < w.heap.size → P b → b < B) : Rd P w' A n bs := by
  refine ⟨h.1, fun hn => ?_⟩
  obtain ⟨b, o, hA, hlt, hp, hc⟩ := h.2 hn
  exact ⟨b, o, hA, Nat.lt_of_lt_of_le hlt hb.size, hp, fun j u hu => (hb.cell (p := ⟨b, o + j, none⟩) (hB b hlt hp)).trans (hc j u hu)⟩
theorem Rd.grown {g : Nat} {P : Nat → Prop} {w w' : World} {A : Option Addr} {n : Nat} {bs : List UInt8} (h : Rd P w A n bs) (hb : w.grownBy w' (some g)) (hB : ∀ b, P b → b ≠ g) : Rd P w' A n bs := by
  refine ⟨h.1, fun hn => ?_⟩
  obtain ⟨b, o, hA, hlt, hp, hc⟩ := h.2 hn
  exact ⟨b, o, hA, Nat.lt_of_lt_of_le hlt hb.size, hp, fun j u hu => hb.cell (hc j u hu) (fun e => hB b hp (Option.some.inj e))⟩
theorem Rd.drewN {P : Nat → Prop} {w : World} {A : Option Addr} {n : Nat} {bs : List UInt8} (h : Rd P w A n bs) (q : Nat) : Rd P (w.drewN q) A n bs := h
theorem add_lit (b o k : Nat) : (⟨b, o, none⟩ : Addr).add k = ⟨b, o + k, none⟩ := by unfold Addr.add; split <;> simp_all
theorem gb_trans {a w w' : World} {row : Option Nat} (h : a.grownBy w row) (k : w.grownBy w' row) : a.grownBy w' row :=
  ⟨k.os.trans h.os, k.tape.trans h.tape, k.output.trans h.output, Nat.le_trans h.size k.size, fun i hi hr => (k.block i (Nat.lt_of_lt_of_le hi h.size) hr).trans (h.block i hi hr)⟩
theorem gb_set (w : World) (g i : Nat) (v : Value) : w.grownBy (w.setCell ⟨g, i, none⟩ v) (some g) :=
  ⟨rfl, rfl, rfl, by simp [World.setCell], fun k _ hr => Below.heap_setCell w ⟨g, i, none⟩ v k (fun e => hr (by rw [e]))⟩
theorem gb_setCells (g : Nat) : ∀ (vs : List Value) (o : Nat) (w : World), w.grownBy (w.setCells g o vs) (some g)
  | [], _, w => World.grownBy.refl w _
  | v :: r, o, w => gb_trans (gb_set w g o v) (gb_setCells g r (o + 1) _)
theorem heap_set {w : World} {g k : Nat} {C : List Value} {t : TypeId} (h : w.heap[g]? = some (.cells C.toArray t (0, 0))) (v : Value) : (w.setCell ⟨g, k, none⟩ v).heap[g]? = some (.cells (C.set k v).toArray t (0, 0)) := by
  simp [World.setCell, Array.getElem?_modify, h]
theorem free_block {w : World} {g : Nat} {C : Array Value} {t : TypeId} (h : w.heap[g]? = some (.cells C t (0, 0))) (k : Nat) : w.frozen? ⟨g, k, none⟩ = false := by
  simp only [World.frozen?, h]
  simp
def setAll : List Value → Nat → List Value → List Value
  | C, _, [] => C
  | C, o, v :: r => setAll (C.set o v) (o + 1) r
theorem heap_setCells {g : Nat} {t : TypeId} : ∀ (vs : List Value) (o : Nat) (w : World) (C : List Value), w.heap[g]? = some (.cells C.toArray t (0, 0)) → (w.setCells g o vs).heap[g]? = some (.cells (setAll C o vs).toArray t (0, 0))
  | [], _, _, _, h => h
  | v :: r, o, w, C, h => by
    rw [World.setCells, setAll]
    exact heap_setCells r (o + 1) _ _ (heap_set h v)
theorem setAll_mid : ∀ (vs p a b : List Value), a.length = vs.length → setAll (p ++ (a ++ b)) p.length vs = p ++ (vs ++ b)
  | [], p, a, b, h => by
    obtain rfl : a = [] := List.eq_nil_of_length_eq_zero h
    rfl
  | v :: r, p, a, b, h => by
    match a, h with
    | x :: a', h =>
      have := setAll_mid r (p ++ [v]) a' b (by simpa using h)
      rw [setAll, List.set_append_right _ _ (Nat.le_refl _), Nat.sub_self]
      simpa using this
theorem hash_cell {w : World} {g : Nat} {C : List Value} {t : TypeId} (h : w.heap[g]? = some (.cells C.toArray t (0, 0))) (k : Nat) (v : Value) (hv : C[k]? = some v) : w.cell? ⟨g, k, none⟩ = some v := by
  rw [cell_of_row w g k C.toArray t (0, 0) h]
  simpa using hv
theorem eight {A : Type} (l : List A) (h : l.length = 8) : ∃ a b c d e f g h', l = [a, b, c, d, e, f, g, h'] := by
  match l, h with
  | [a, b, c, d, e, f, g, h'], _ => exact ⟨a, b, c, d, e, f, g, h', rfl⟩
theorem range_block {w : World} {g : Nat} {C : List Value} {t : TypeId} (h : w.heap[g]? = some (.cells C.toArray t (0, 0))) (o : Nat) (cs : List Value) (hc : ∀ j v, cs[j]? = some v → C[o + j]? = some v) : w.rangeAt g o cs := fun j v hv =>
  hash_cell h (o + j) v (hc j v hv)
def lenOf : Value → Nat
  | .slice _ n _ => n
  | _ => 0
theorem Tryd.info5 : (Tryd.prog.info? 5).map (fun i => (i.zero, i.size, i.bytes)) = some (some (.int .u8 0), 1, 1) := by kernel_rfl
theorem Rd.src {P : Nat → Prop} {w : World} {A : Option Addr} {n : Nat} {bs : List UInt8} (h : Rd P w A n bs) :
    0 < (u8s bs).length → ∃ ad, A = some ad ∧ ∀ j v, (u8s bs)[j]? = some v → w.cell? (ad.add j) = some v := by
  intro hp
  obtain ⟨hl, hc⟩ := h
  rw [u8s_length] at hp
  obtain ⟨b, o, hA, _, _, hcell⟩ := hc (by omega)
  refine ⟨_, hA, fun j v hv => ?_⟩
  rw [add_lit]
  simp only [u8s, List.getElem?_map, Option.map_eq_some_iff] at hv
  obtain ⟨u, hu, rfl⟩ := hv
  exact hcell j u hu
theorem Rd.of_own {w : World} {B n : Nat} {bs : List UInt8} {A : Option Addr} {c : Nat} (h : w.ownsRow B 5 1 (.slice A n c) n (u8s bs)) : Rd (B ≤ ·) w A n bs := by
  have hl : bs.length = n := by have := h.1; rw [u8s_length] at this; omega
  refine ⟨hl, fun hn => ?_⟩
  rcases h.2 with ⟨h0, h1⟩ | ⟨g, cap, cur, hv, hB, hh, _⟩
  · omega
  · have hA : A = some ⟨g, 0, none⟩ := by injection hv
    subst hA
    refine ⟨g, 0, rfl, ?_, hB, fun j u hu => ?_⟩
    · exact (h.lt g rfl).2
    · have := h.cells (g := g) rfl j (.int .u8 (u.toNat : Int)) (by simp [u8s, hu])
      rwa [add_lit] at this
theorem own_shape {w : World} {B n : Nat} {v : Value} {xs : List Value} (h : w.ownsRow B 5 1 v n xs) : ∃ A c, v = .slice A n c ∧ Sl A n c := by
  rcases h.2 with ⟨rfl, rfl⟩ | ⟨g, cap, cur, rfl, _, _, hn, hm, _⟩
  · exact ⟨none, 0, rfl, ⟨fun _ => ⟨rfl, rfl⟩, Nat.le_refl _, by omega⟩⟩
  · exact ⟨_, cap, rfl, ⟨(fun h => (by cases h)), hn, by unfold maxLen at hm; omega⟩⟩
theorem Tryd.underlying9' : Tryd.prog.underlying 9 = some .string := by kernel_rfl
def str (bs : List UInt8) : ByteArray := ⟨bs.toArray⟩
theorem run_string {P : Nat → Prop} {w : World} {A : Option Addr} {n c : Nat} {bs : List UInt8} (h : Rd P w A n bs) : (convert 38 9 (.slice A n c)).run Tryd.prog w = .ok (.string (str bs)) w := by
  rcases A with _ | ad
  · have h0 : n = 0 := by
      rcases Nat.eq_zero_or_pos n with h0 | h0
      · exact h0
      · obtain ⟨_, _, hA, _⟩ := h.2 h0
        cases hA
    subst h0
    have hb : bs = [] := List.eq_nil_of_length_eq_zero h.1
    subst hb
    exact run_convert_bytes_nil w 38 5 Tryd.underlying38 Tryd.underlying5 0 c 9 Tryd.underlying9'
  · rcases Nat.eq_zero_or_pos n with h0 | h0
    · subst h0
      have hb : bs = [] := List.eq_nil_of_length_eq_zero h.1
      subst hb
      rw [run_convert_bytes_string w 38 9 5 _ 0 c Tryd.underlying38 Tryd.underlying5 Tryd.underlying9', run_bytesToString w ad 0 c [] (by simpa using run_loadCells_list (P := Tryd.prog) w ad [] (by simp))]
      rfl
    · obtain ⟨b, o, hA, _, _, hc⟩ := h.2 h0
      injection hA with hA
      subst hA
      have := run_convert_bytes_arg (P := Tryd.prog) w 38 5 Tryd.underlying38 Tryd.underlying5 b o n c (bs.map fun x => (x.toNat : Int)) (by rw [List.length_map]; exact h.1) (fun i hi => by
        have hi' : i < bs.length := by rw [h.1]; exact hi
        rw [hc i bs[i] (List.getElem?_eq_getElem hi')]
        simp [List.getD, hi']) 9 Tryd.underlying9'
      rw [this]
      congr 2
      apply ByteArray.ext
      apply Array.toList_inj.1
      rw [strOfNums_data, List.map_map]
      simp only [str]
      conv => rhs; rw [← List.map_id bs]
      apply List.map_congr_left
      intro x _
      simp
end Go.Proofs.YtpageppjngbnpaaDoor.Sh
