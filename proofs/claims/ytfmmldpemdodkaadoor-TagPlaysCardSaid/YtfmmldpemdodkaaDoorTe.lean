/-
  What is proved: what Of, keyOf, Replica, Client and Numbered of tag answer. Conditions as stated.
-/
import Derived.Test.YtfmmldpemdodkaaDoorTd
import Derived.Lib.ConvBytes
namespace Go.Proofs.YtfmmldpemdodkaaDoor
open Go.RowKit

/-- A text's bytes. -/
theorem wpList_str {ops : Array Oper} {rest : List Oper} {op : Oper} {a : Act} {w : World} {Q : Exit → Act → World → Prop} (hgd : op.guard = none) (x : Operand) (ho : op.op = .convert 9 22 x)
    (s : ByteArray) (bs : List UInt8) (hs : s.data.toList = bs) (hm : s.size ≤ 140737488355328) (hx : a.eval x = .string s)
    (h : ∀ c w2, Hid (Below w.heap.size w w2 ∧ Rd (fun _ => True) w2 (some ⟨w.heap.size, 0, none⟩) s.size bs ∧ Sl (some ⟨w.heap.size, 0, none⟩) s.size c ∧ w.heap.size < w2.heap.size) → wpList Tryd.prog ops Q rest (a.put op.dst (.slice (some ⟨w.heap.size, 0, none⟩) s.size c)) w2) : wpList Tryd.prog ops Q (op :: rest) a w := by
  have hrun := Lib.run_convert_string_bytes (P := Tryd.prog) w 9 22 5 s Tryd.underlying9' Tryd.underlying22 Tryd.underlying5
  have h1 := grownCap_ge w s.size 0 5
  have h2 := grownCap_le_maxLen w s.size 0 5 (by unfold maxLen; omega)
  refine wpList_plain hgd fun K hK => ?_
  unfold Oper.wp execOp
  simp only [ho, hx, Sem.run_bind, Sem.run_pure, Result.andThen_ok, hrun]
  refine hK _ _ (h _ _ (Lib.hid ⟨⟨rfl, rfl, rfl, by rw [Lib.bytesWorld_size]; omega, fun k hk => Lib.bytesWorld_at_old w 5 s k hk⟩, ⟨by rw [← hs]; exact Array.length_toList, fun _ => ⟨_, 0, rfl, by rw [Lib.bytesWorld_size]; omega, trivial, fun j u hu => ?_⟩⟩, ⟨(fun e => by cases e), h1, by unfold maxLen at h2; omega⟩, by rw [Lib.bytesWorld_size]; omega⟩))
  subst hs
  have hj : j < s.size := by have := (List.getElem?_eq_some_iff.1 hu).1; rw [Array.length_toList] at this; exact this
  rw [Nat.zero_add, Lib.bytesWorld_cell w 5 s j hj, List.getD_eq_getElem?_getD, hu]
  rfl

theorem lists_one {P : Nat → Prop} {w : World} {A : Option Addr} {n c : Nat} {bs : List UInt8} (hr : Rd P w A n bs) (hs : Sl A n c) (t : TypeId) : Lists (w.alloc (.cells #[.slice A n c] t)) (some ⟨w.heap.size, 0, none⟩) 1 [(A, c, bs)] := by
  obtain rfl : bs.length = n := hr.1
  refine ⟨rfl, fun _ => ⟨_, 0, rfl, by simp, fun j x hx => ?_⟩⟩
  match j, hx with
  | 0, hx =>
    simp at hx
    subst hx
    exact ⟨cell_of_row _ _ 0 _ t (0, 0) (heap_alloc_new w _), (hr.below ((Below.refl _ _).alloc (Nat.le_refl _) _) (fun _ h _ => h)).mono (fun _ _ _ => trivial), hs⟩
theorem lists_two {P P' : Nat → Prop} {w : World} {A A' : Option Addr} {n c n' c' : Nat} {bs bs' : List UInt8} (hr : Rd P w A n bs) (hs : Sl A n c) (hr' : Rd P' w A' n' bs') (hs' : Sl A' n' c') (t : TypeId) :
    Lists (w.alloc (.cells #[.slice A n c, .slice A' n' c'] t)) (some ⟨w.heap.size, 0, none⟩) 2 [(A, c, bs), (A', c', bs')] := by
  obtain rfl : bs.length = n := hr.1
  obtain rfl : bs'.length = n' := hr'.1
  refine ⟨rfl, fun _ => ⟨_, 0, rfl, by simp, fun j x hx => ?_⟩⟩
  match j, hx with
  | 0, hx =>
    simp at hx
    subst hx
    exact ⟨cell_of_row _ _ 0 _ t (0, 0) (heap_alloc_new w _), (hr.below ((Below.refl _ _).alloc (Nat.le_refl _) _) (fun _ h _ => h)).mono (fun _ _ _ => trivial), hs⟩
  | 1, hx =>
    simp at hx
    subst hx
    exact ⟨cell_of_row _ _ 1 _ t (0, 0) (heap_alloc_new w _), (hr'.below ((Below.refl _ _).alloc (Nat.le_refl _) _) (fun _ h _ => h)).mono (fun _ _ _ => trivial), hs'⟩

set_option maxHeartbeats 400000 in
theorem of_by {Pk Pb : Nat → Prop} (key b out : List UInt8) (A : Option Addr) (c : Nat) (A' : Option Addr) (c' : Nat) (w : World) (ho : (u8s out).length = 32)
    (hr : Rd Pk w A key.length key) (hr' : Rd Pb w A' b.length b) (hs' : Sl A' b.length c') (hk : KIs w) (h0 : 0 < w.heap.size)
    (T : ∀ (g : Nat) (w : World), Rd (fun _ => True) w A key.length key → Lists w (some ⟨g, 0, none⟩) 1 [(A', c', b)] → KIs w → 0 < w.heap.size → Calls Tryd.prog 20 #[.slice A key.length c, .slice (some ⟨g, 0, none⟩) 1 1] w fun E w' => E = .returned (.agg (u8s out).toArray) ∧ Below w.heap.size w w') :
    Calls Tryd.prog 9 #[.slice A key.length c, .slice A' b.length c'] w fun E w' => E = .returned (.agg (u8s out).toArray) ∧ Below w.heap.size w w' := by
  have HR := Lib.hid hr
  have HR' := Lib.hid hr'
  have HS' := Lib.hid hs'
  have HK := Lib.hid hk
  have HO := Lib.hid ho
  have TT := Lib.hid T
  have HIO : Hid ((Tryd.prog.info? 25).map (·.size) = some (u8s out).length) := Lib.hid (by rw [ho]; exact Tryd.size25)
  clear hr hr' hs' hk ho T
  go_enter Tryd.func9, Tryd.ntmps9
  have HA0 : Hid (Below w.heap.size w (w.alloc (.cells (List.replicate 32 (Value.int .u8 0)).toArray 25))) := Lib.hid ((Below.refl _ _).alloc (Nat.le_refl _) _)
  have HA1 : Hid (∀ o : Obj, Below w.heap.size w ((w.alloc (.cells (List.replicate 32 (Value.int .u8 0)).toArray 25)).alloc o)) := Lib.hid fun o => ((Below.refl _ _).alloc (Nat.le_refl _) _).alloc (by simp) _
  go_wp2_with (first
    | (go_at_call 20; refine (TT.out (w.heap.size + 1) _ ((HR.out.below (HA1.out _) (fun _ h _ => h)).mono fun _ _ _ => trivial) (by have := lists_one (HR'.out.below HA0.out (fun _ h _ => h)) HS'.out 22; simpa using this) (HK.out.below (HA1.out _) h0) (by simp)).mono ?_; rintro E w1 ⟨rfl, hb1⟩; have HB1 : Hid (Below w.heap.size w w1) := Lib.hid ((HA1.out _).trans (hb1.mono (by simp; omega))); have HT1 : Hid (w1.there w.heap.size 0 (u8s out).length) := Lib.hid (by rw [HO.out]; exact there_below (World.there_alloc (there_new w (List.replicate 32 (Value.int .u8 0)).toArray 25) _) hb1 (by simp; omega)); clear hb1)
    | (refine wpList_store_cells rfl 25 (.tmp 4) (.tmp 8) rfl w.heap.size 0 (u8s out) rfl rfl HT1.out HIO.out (u8s_one _) ?_))
  exact bodyPost_ret (ret_range (cs := u8s out) rfl rfl (World.rangeAt_setCells_same _ _ _ (u8s out) HT1.out) Tryd.underlying25 rfl HIO.out) rfl ⟨rfl, below_setCells (Nat.le_refl _) _ _ _ HB1.out⟩

theorem of_any {Pk Pb : Nat → Prop} (key b : List UInt8) (A : Option Addr) (n c : Nat) (A' : Option Addr) (n' c' : Nat) (w : World)
    (hr : Rd Pk w A n key) (hs : Sl A n c) (hr' : Rd Pb w A' n' b) (hs' : Sl A' n' c') (hL : n < 1000000000000000000) (hL' : n' < 1000000000000000) (hk : KIs w) (h0 : 0 < w.heap.size) :
    Calls Tryd.prog 9 #[.slice A n c, .slice A' n' c'] w fun E w' => E = .returned (.agg (u8s (hmac key b)).toArray) ∧ Below w.heap.size w w' := by
  obtain rfl : key.length = n := hr.1
  obtain rfl : b.length = n' := hr'.1
  refine of_by key b (hmac key b) A c A' c' w (by rw [u8s_length, hmac_length]) hr hr' hs' hk h0 fun g w hr hx hk h0 => ?_
  have := tagOf_any key [(A', c', b)] A c (some ⟨g, 0, none⟩) 1 1 w hr hs hL hx (by omega) (by simp [catOf]; omega) hk h0
  rwa [show catOf [(A', c', b)] = b by simp [catOf]] at this

def txtRep : List UInt8 := [114, 97, 116, 99, 104, 101, 116, 32, 114, 101, 112, 108, 105, 99, 97]
def txtCli : List UInt8 := [114, 97, 116, 99, 104, 101, 116, 32, 99, 108, 105, 101, 110, 116]
/-- The key of whom the name and the number tell. -/
def keyI (name : List UInt8) (most i : Int) : List UInt8 := if i < 1 ∨ most < i then [] else sumOf (name ++ be 8 i.toNat)
def repKey (i : Int) : List UInt8 := keyI txtRep 11 i
def cliKey (i : Int) : List UInt8 := keyI txtCli 8 i

theorem keyOf_no (s : ByteArray) (i most : Int) (w : World) (h : i < 1 ∨ most < i) :
    Calls Tryd.prog 23 #[.string s, .int .i64 i, .int .i64 most] w fun E w' => E = .returned (.slice none 0 0) ∧ w = w' := by
  by_cases h1 : i < 1
  · clear h
    go_enter Tryd.func23, Tryd.ntmps23
    go_wp2
    go_ret
    exact ⟨rfl, rfl⟩
  · have h2 : most < i := by omega
    clear h
    go_enter Tryd.func23, Tryd.ntmps23
    go_wp2
    go_ret
    exact ⟨rfl, rfl⟩

set_option maxHeartbeats 400000 in
theorem keyOf_by (s : ByteArray) (name d : List UInt8) (i : Nat) (most : Int) (w : World) (hs : s.data.toList = name) (hm : s.size ≤ 1000) (h1 : 1 ≤ i) (h2 : (i : Int) ≤ most) (h3 : most ≤ 1000000) (hd : d.length = 32) (hk : KIs w) (h0 : 0 < w.heap.size)
    (W8 : ∀ (A : Option Addr) (c : Nat) (w : World), Rd (fun _ => True) w A s.size name → Calls Tryd.prog 19 #[.slice A s.size c, .int .u64 i] w fun e w' => ∃ g c', e = .returned (.slice (some ⟨g, 0, none⟩) (s.size + 8) c') ∧ Hid (Rd (fun _ => True) w' (some ⟨g, 0, none⟩) (s.size + 8) (name ++ be 8 i) ∧ Sl (some ⟨g, 0, none⟩) (s.size + 8) c') ∧ Below w.heap.size w w')
    (S : ∀ (A : Option Addr) (c : Nat) (w : World), Rd (fun _ => True) w A (s.size + 8) (name ++ be 8 i) → Sl A (s.size + 8) c → KIs w → 0 < w.heap.size → Calls Tryd.prog 18 #[.slice A (s.size + 8) c] w fun E w' => E = .returned (.agg (u8s d).toArray) ∧ Below w.heap.size w w') :
    Calls Tryd.prog 23 #[.string s, .int .i64 i, .int .i64 most] w fun E w' => ∃ g, E = .returned (.slice (some ⟨g, 0, none⟩) 32 32) ∧ Hid (Rd (w.heap.size ≤ ·) w' (some ⟨g, 0, none⟩) 32 d) ∧ Below w.heap.size w w' := by
  have HS := Lib.hid hs
  have HK := Lib.hid hk
  have HD := Lib.hid hd
  have WW := Lib.hid W8
  have SS := Lib.hid S
  have HD32 : Hid ((u8s d).length = 32) := Lib.hid (by rw [u8s_length, hd])
  have HID : Hid ((Tryd.prog.info? 25).map (·.size) = some (u8s d).length) := Lib.hid (by rw [HD32.out]; exact Tryd.size25)
  clear hs hk hd W8 S
  go_enter Tryd.func23, Tryd.ntmps23
  go_wp2_with (first
    | (refine wpList_str rfl (.tmp 15) rfl s name HS.out (by omega) rfl ?_; intro c1 w1 H1)
    | (go_at_call 19; refine (WW.out _ c1 w1 H1.out.2.1).mono ?_; rintro E w2 ⟨g, c2, rfl, H2, hb2⟩; have HB2 : Hid (Below w.heap.size w w2) := Lib.hid (H1.out.1.trans (hb2.mono H1.out.1.size)); clear hb2)
    | (go_at_call 18; refine (SS.out _ c2 w2 H2.out.1 H2.out.2 (HK.out.below HB2.out h0) (Nat.lt_of_lt_of_le h0 HB2.out.size)).mono ?_; rintro E w3 ⟨rfl, hb3⟩; have HB3 : Hid (Below w.heap.size w w3) := Lib.hid (HB2.out.trans (hb3.mono HB2.out.size)); clear hb3)
    | (refine wpList_store_fresh rfl 25 (.tmp 7) (.tmp 20) rfl (u8s d) rfl rfl (by rw [HD32.out]; rfl) HID.out (u8s_one d) ?_; intro w4 HB4))
  go_ret
  exact ⟨w3.heap.size, rfl, Lib.hid (Rd.of_range HB4.out.2.1 HB4.out.2.2.2 HB3.out.size (fun _ _ h => h) HD.out), HB3.out.trans (HB4.out.1.mono HB3.out.size)⟩

theorem keyOf_yes (s : ByteArray) (name : List UInt8) (i : Nat) (most : Int) (w : World) (hs : s.data.toList = name) (hm : s.size ≤ 1000) (h1 : 1 ≤ i) (h2 : (i : Int) ≤ most) (h3 : most ≤ 1000000) (hk : KIs w) (h0 : 0 < w.heap.size) :
    Calls Tryd.prog 23 #[.string s, .int .i64 i, .int .i64 most] w fun E w' => ∃ g, E = .returned (.slice (some ⟨g, 0, none⟩) 32 32) ∧ Hid (Rd (w.heap.size ≤ ·) w' (some ⟨g, 0, none⟩) 32 (sumOf (name ++ be 8 i))) ∧ Below w.heap.size w w' :=
  keyOf_by s name (sumOf (name ++ be 8 i)) i most w hs hm h1 h2 h3 (sumOf_length _) hk h0
    (fun A c w hr => (word_any A s.size c name i w hr (by omega)).mono fun e w' ⟨g, c', he, ho, hb⟩ => ⟨g, c', he, Lib.hid ⟨(Rd.of_own ho).mono fun _ _ _ => trivial, by obtain ⟨A2, c2, e2, h2⟩ := own_shape ho; injection e2 with e3 e4 e5; subst e3 e5; exact h2⟩, hb⟩)
    (fun A c w hr hs hk h0 => by
      have e : (name ++ be 8 i).length = s.size + 8 := hr.1
      have := sum_any (name ++ be 8 i) A c w (by rw [e]; exact hr) (by rw [e]; exact hs) (by rw [e]; omega) hk h0
      rwa [e] at this)

/-- A key, whatever the number. -/
theorem keyOf_any (s : ByteArray) (name : List UInt8) (i most : Int) (w : World) (hs : s.data.toList = name) (hm : s.size ≤ 1000) (h3 : most ≤ 1000000) (hk : KIs w) (h0 : 0 < w.heap.size) :
    Calls Tryd.prog 23 #[.string s, .int .i64 i, .int .i64 most] w fun E w' => ∃ A c, E = .returned (.slice A (keyI name most i).length c) ∧ Hid (Rd (w.heap.size ≤ ·) w' A (keyI name most i).length (keyI name most i) ∧ Sl A (keyI name most i).length c) ∧ Below w.heap.size w w' := by
  by_cases h : i < 1 ∨ most < i
  · have e : keyI name most i = [] := if_pos h
    rw [e]
    exact (keyOf_no s i most w h).mono fun E w' ⟨he, hw⟩ => hw ▸ ⟨none, 0, he, Lib.hid ⟨Rd.nil _ _ _, ⟨fun _ => ⟨rfl, rfl⟩, Nat.le_refl _, by simp⟩⟩, Below.refl _ _⟩
  · obtain ⟨j, rfl⟩ : ∃ j : Nat, i = (j : Int) := ⟨i.toNat, by omega⟩
    have e : keyI name most (j : Int) = sumOf (name ++ be 8 j) := by rw [keyI, if_neg h, Int.toNat_natCast]
    rw [e, sumOf_length]
    exact (keyOf_yes s name j most w hs hm (by omega) (by omega) h3 hk h0).mono fun E w' ⟨g, he, hr, hb⟩ => ⟨_, _, he, Lib.hid ⟨hr.out, ⟨(fun e => by cases e), Nat.le_refl _, by omega⟩⟩, hb⟩

theorem replica_any (i : Int) (w : World) (hk : KIs w) (h0 : 0 < w.heap.size) :
    Calls Tryd.prog 11 #[.int .i64 i] w fun E w' => ∃ A c, E = .returned (.slice A (repKey i).length c) ∧ Hid (Rd (w.heap.size ≤ ·) w' A (repKey i).length (repKey i) ∧ Sl A (repKey i).length c) ∧ Below w.heap.size w w' := by
  have H := fun s hs hm => Lib.hid (keyOf_any s txtRep i 11 w hs hm (by omega) hk h0)
  rw [show keyI txtRep 11 i = repKey i from rfl] at H
  generalize repKey i = d at H ⊢
  go_enter Tryd.func11, Tryd.ntmps11
  go_wp2_with (go_at_call 23; refine ((H _ rfl (by decide)).out).mono ?_; rintro E w1 ⟨A, c, rfl, h1, hb1⟩)
  go_ret
  exact ⟨A, c, rfl, h1, hb1⟩
theorem client_any (i : Int) (w : World) (hk : KIs w) (h0 : 0 < w.heap.size) :
    Calls Tryd.prog 13 #[.int .i64 i] w fun E w' => ∃ A c, E = .returned (.slice A (cliKey i).length c) ∧ Hid (Rd (w.heap.size ≤ ·) w' A (cliKey i).length (cliKey i) ∧ Sl A (cliKey i).length c) ∧ Below w.heap.size w w' := by
  have H := fun s hs hm => Lib.hid (keyOf_any s txtCli i 8 w hs hm (by omega) hk h0)
  rw [show keyI txtCli 8 i = cliKey i from rfl] at H
  generalize cliKey i = d at H ⊢
  go_enter Tryd.func13, Tryd.ntmps13
  go_wp2_with (go_at_call 23; refine ((H _ rfl (by decide)).out).mono ?_; rintro E w1 ⟨A, c, rfl, h1, hb1⟩)
  go_ret
  exact ⟨A, c, rfl, h1, hb1⟩
end Go.Proofs.YtfmmldpemdodkaaDoor
