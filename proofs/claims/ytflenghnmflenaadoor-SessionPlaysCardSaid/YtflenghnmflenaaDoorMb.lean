/-
  What is proved: a number's digits by the document's own answers. Conditions as stated.
-/
import Derived.Test.YtflenghnmflenaaDoorLk
import Derived.Lib.Atoi
import Derived.Lib.AtoiTie
namespace Go.Proofs.YtflenghnmflenaaDoor
open Go.RowKit
set_option maxRecDepth 100000

/-- The digits of what is left. -/
def dD (m : Nat) : List UInt8 := if m = 0 then [] else Lib.decDigits m
theorem dD_step (m : Nat) : Lib.decDigits m = dD (m / 10) ++ [UInt8.ofNat (48 + m % 10)] := by
  by_cases h10 : m < 10
  · rw [Lib.decDigits_one h10, dD, if_pos (by omega), Nat.mod_eq_of_lt h10]
    rfl
  · rw [Lib.decDigits, dif_neg h10, dD, if_neg (by omega)]
def mz (v w : Value) : Nat := 2 * (intOf v).toNat + (match w with | .string s => 1 - s.size | _ => 0)
theorem mz_lt (m k : Nat) (s t : ByteArray) (h : (s.size = 0 ∧ k ≤ m) ∨ k < m) (ht : 1 ≤ t.size) : mz (.int .u64 (k : Int)) (.string t) < mz (.int .u64 (m : Int)) (.string s) := by
  simp only [mz, intOf, Int.toNat_natCast]
  omega
theorem size_mk (l : List UInt8) : (⟨l.toArray⟩ : ByteArray).size = l.length := by simp [ByteArray.size]
def DigR (N m : Nat) (s : List UInt8) : Prop := (s = [] ∧ m = N) ∨ (s ≠ [] ∧ Lib.decDigits N = dD m ++ s)
theorem DigR.next {N m : Nat} {s : List UInt8} (h : DigR N m s) (hg : m ≠ 0 ∨ s = []) : DigR N (m / 10) (UInt8.ofNat (48 + m % 10) :: s) := by
  refine .inr ⟨by simp, ?_⟩
  by_cases hm : m = 0
  · subst hm
    rcases h with ⟨rfl, rfl⟩ | ⟨hs, _⟩
    · exact dD_step 0
    · exact absurd (hg.resolve_left (by simp)) hs
  · rcases h with ⟨rfl, rfl⟩ | ⟨_, h⟩
    · rw [dD_step m]
    · rw [h, dD, if_neg hm, dD_step m, List.append_assoc]
      rfl
theorem DigR.fin {N m : Nat} {s : List UInt8} (h : DigR N m s) (hm : m = 0) (hs : s ≠ []) : Lib.decDigits N = s := by
  rcases h with ⟨e, _⟩ | ⟨_, h⟩
  · exact absurd e hs
  · rw [h, hm]; rfl
theorem DigR.len {N m : Nat} {s : List UInt8} (h : DigR N m s) (hN : N < 18446744073709551616) : s.length ≤ 20 := by
  rcases h with ⟨rfl, _⟩ | ⟨_, h⟩
  · simp
  · have h1 : (Lib.decDigits N).length ≤ 20 := by
      rw [Lib.decDigits_length]
      by_cases h0 : 1 ≤ N
      · have := Lib.numDigits_eq N h0 hN
        split at this <;> omega
      · obtain rfl : N = 0 := by omega
        rw [Lib.nDigits_small (by omega)]
        omega
    rw [h, List.length_append] at h1
    omega
set_option maxHeartbeats 4000000 in
theorem rdigits_any (N : Nat) (hN : N < 18446744073709551616) (w : World) : Calls Tryd.prog 51 #[.int .u64 (N : Int)] w fun E w' => E = .returned (.string (dec N)) ∧ Below w.heap.size w w' := by
  have HB0 := Lib.hid (Below.refl w.heap.size w)
  have HN := Lib.hid hN
  go_enter Tryd.func51, Tryd.ntmps51
  go_wp2_with fail
  go_loopw [0, 3] (fun v0 v3 wr => ∃ (m : Nat) (s : List UInt8), v0 = .int .u64 (m : Int) ∧ v3 = .string ⟨s.toArray⟩ ∧ Hid (m ≤ N ∧ DigR N m s ∧ Below w.heap.size w wr)) (fun v0 v3 _ => mz v0 v3)
  case atStart => exact ⟨N, [], rfl, rfl, Lib.hid ⟨Nat.le_refl _, .inl ⟨rfl, rfl⟩, HB0.out⟩⟩
  case round =>
    obtain ⟨m, s, rfl, rfl, HR⟩ := hrel
    have HM : Hid (m < 18446744073709551616) := Lib.hid (by have := HR.out.1; have := HN.out; omega)
    by_cases hg : m ≠ 0 ∨ s = []
    · have HX := Lib.hid (HR.out.2.1.next hg)
      have hsz := HR.out.2.1.len HN.out
      have hc0 : IntKind.u64.wrap (48 + (m : Int) % 10) = 48 + (m : Int) % 10 := by rw [IntKind.wrap_u64]; omega
      obtain ⟨d, hd⟩ : ∃ d, d = UInt8.ofNat (48 + m % 10) := ⟨_, rfl⟩
      have hdn : IntKind.u8.wrap (48 + (m : Int) % 10) = (d.toNat : Int) := by rw [hd, IntKind.wrap_u8]; simp <;> omega
      have hadd : (Op.stringOp .add ⟨#[d]⟩ ⟨s.toArray⟩).run Tryd.prog (wr.alloc (.cells #[.int .u8 (d.toNat : Int)] 5)) = .ok (.string ⟨(d :: s).toArray⟩) (wr.alloc (.cells #[.int .u8 (d.toNat : Int)] 5)) := by
        have h := run_string_add (P := Tryd.prog) (w := wr.alloc (.cells #[.int .u8 (d.toNat : Int)] 5)) ⟨#[d]⟩ ⟨s.toArray⟩ (by show ((1 : Nat) : Int) ≤ _; omega) (by rw [size_mk]; omega)
        rw [h]
        rfl
      have hcv : (convert 62 9 (.slice (some ⟨wr.heap.size, 0, none⟩) 1 1)).run Tryd.prog (wr.alloc (.cells #[.int .u8 (d.toNat : Int)] 5)) = .ok (.string ⟨#[d]⟩) (wr.alloc (.cells #[.int .u8 (d.toNat : Int)] 5)) :=
        run_convert_bytes_back (P := Tryd.prog) (wr.alloc (.cells #[.int .u8 (d.toNat : Int)] 5)) 62 9 5 ⟨wr.heap.size, 0, none⟩ 1 [d] Tryd.underlying62 Tryd.underlying5 Tryd.underlying9 (fun j hj => by
          obtain rfl : j = 0 := by simpa using hj
          rw [Lib.add_plain]
          simp)
      have HB : Hid (Below w.heap.size w (wr.alloc (.cells #[.int .u8 (d.toNat : Int)] 5))) := Lib.hid (HR.out.2.2.alloc HR.out.2.2.size _)
      have HL : Hid (m / 10 ≤ N) := Lib.hid (by have := HR.out.1; omega)
      have HZ : Hid (mz (.int .u64 ((m / 10 : Nat) : Int)) (.string ⟨(d :: s).toArray⟩) < mz (.int .u64 (m : Int)) (.string ⟨s.toArray⟩)) := Lib.hid (mz_lt _ _ _ _ (by
        rcases hg with h | h
        · exact .inr (by omega)
        · rw [h]
          exact .inl ⟨rfl, by omega⟩) (by rw [size_mk]; simp))
      have hdi2 : IntKind.u64.wrap ((m : Int) / 10) = ((m / 10 : Nat) : Int) := by rw [IntKind.wrap_u64]; have := HM.out; omega
      have hdi : IntKind.u64.wrap ((m : Int).tdiv 10) = ((m / 10 : Nat) : Int) := by rw [Int.tdiv_eq_ediv_of_nonneg (by omega), IntKind.wrap_u64]; have := HM.out; omega
      rw [← hd] at HX
      have HD := Lib.hid hd
      clear hd hsz
      by_cases hm : 0 < m
      · have hm' : (0 : Int) < (m : Int) := by omega
        clear hg
        go_wp2_with fail
        go_roundw
        case measure => first | exact HZ.out | (rw [hdi2]; exact HZ.out) | (rw [hdi]; exact HZ.out) | (simpa [hdi2] using HZ.out)
        case rel => exact ⟨m / 10, d :: s, by first | rfl | (rw [hdi2]; rfl) | (rw [hdi]; rfl) | (rw [hdi2]) | (rw [hdi]) | go_num, rfl, Lib.hid ⟨HL.out, HX.out, HB.out⟩⟩
      · obtain rfl : m = 0 := by omega
        obtain rfl : s = [] := hg.resolve_left (by simp)
        have hd48 : d = 48 := by rw [HD.out]; rfl
        subst hd48
        have hcv0 : (convert 62 9 (.slice (some ⟨wr.heap.size, 0, none⟩) 1 1)).run Tryd.prog (wr.alloc (.cells #[.int .u8 48] 5)) = .ok (.string ⟨#[48]⟩) (wr.alloc (.cells #[.int .u8 48] 5)) := hcv
        have hadd0 : (Op.stringOp .add ⟨#[48]⟩ ⟨#[]⟩).run Tryd.prog (wr.alloc (.cells #[.int .u8 48] 5)) = .ok (.string ⟨#[48]⟩) (wr.alloc (.cells #[.int .u8 48] 5)) := hadd
        have HB' : Hid (Below w.heap.size w (wr.alloc (.cells #[.int .u8 48] 5))) := HB
        clear hg hcv hadd hdi hdi2 hdn hc0 hm
        go_wp2_with fail
        go_roundw
        case measure => first | exact HZ.out | (simpa using HZ.out)
        case rel => exact ⟨0, [48], by first | rfl | go_num, rfl, Lib.hid ⟨HL.out, HX.out, HB'.out⟩⟩
    · have hm : m = 0 := by omega
      have hs : s ≠ [] := fun e => hg (.inr e)
      have HF := Lib.hid (HR.out.2.1.fin hm hs)
      have HB := Lib.hid HR.out.2.2
      have hne : ((⟨s.toArray⟩ : ByteArray).toList == (⟨#[]⟩ : ByteArray).toList) = false := by
        rw [ByteArray.toList_mk, show (⟨#[]⟩ : ByteArray) = ⟨([] : List UInt8).toArray⟩ from rfl, ByteArray.toList_mk]
        simpa using hs
      subst hm
      have hse : (s == ([] : List UInt8)) = false := by simpa using hs
      clear hg HR HM
      go_wp2_with fail
      go_ret
      exact ⟨by rw [dec, HF.out]; rfl, HB.out⟩
end Go.Proofs.YtflenghnmflenaaDoor
