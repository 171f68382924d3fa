/-
  What is proved: what a row of requests makes. Conditions as stated.
-/
import Derived.Test.YtpageppjngbnpaaDoorB2
namespace Go.Proofs.YtpageppjngbnpaaDoor
open Go.RowKit
set_option maxRecDepth 100000

def runQ (qs : List MRq) : MSt := qs.foldl MSt.next S0
theorem runQ_take {qs : List MRq} {j : Nat} {q : MRq} (h : qs[j]? = some q) : runQ (qs.take (j + 1)) = (runQ (qs.take j)).next q := by
  rw [List.take_add_one, h, runQ, runQ, List.foldl_append]
  rfl
theorem rch_run : ∀ (qs : List MRq) {S : MSt}, Rch S → (∀ q ∈ qs, q.time < 18446744073709551616) → Rch (qs.foldl MSt.next S)
  | [], _, h, _ => h
  | q :: r, _, h, hq => rch_run r (h.next (hq q (List.mem_cons_self ..))) fun p hp => hq p (List.mem_cons_of_mem _ hp)
theorem runQ_n : ∀ (qs : List MRq) {S : MSt}, S.n + qs.length < 18446744073709551616 → (qs.foldl MSt.next S).n = S.n + qs.length
  | [], _, _ => rfl
  | q :: r, S, h => by
    rw [List.length_cons] at h
    have e : (S.next q).n = S.n + 1 := Nat.mod_eq_of_lt (by omega)
    rw [List.foldl_cons, runQ_n r (by rw [e]; omega), e, List.length_cons]
    omega
theorem run_bs {w w' : World} {A : Option Addr} {l : List UInt8} {c n : Nat} (h : Bs w A l c) (hb : Below w.heap.size w w') (hn : n = l.length) : (convert 38 9 (.slice A n c)).run Tryd.prog w' = .ok (.string (Sh.str l)) w' := by
  subst hn
  exact Sh.run_string (h.below hb).rd
theorem rqs_time {w : World} {A : Option Addr} {qs : List MRq} (h : Rqs w A qs) : ∀ q ∈ qs, q.time < 18446744073709551616 := fun q hq => (h.num q hq).1
theorem take_time {qs : List MRq} (h : ∀ q ∈ qs, q.time < 18446744073709551616) (j : Nat) : Rch (runQ (qs.take j)) := rch_run _ Rch.zero fun q hq => h q (List.mem_of_mem_take hq)
/-- One more request done at any state that is beside. -/
theorem do_one {w W : World} {os : List Thing} {s t g : Nat} {r : Option Nat} {c : Nat} {S : MSt} {q : MRq} (ht : q.tag.length = 32) (H : Fr w W (stT s t g r c S :: os)) : Calls Tryd.prog 7 #[.pointer (some ⟨s, 0, none⟩), .agg (rqC q).toArray] W fun E W' =>
    ∃ r' c', E = .returned (.tuple #[.agg #[.int .i64 (tR S.T S.xs q).1.1.1, .string (tR S.T S.xs q).1.1.2], .bool (tR S.T S.xs q).1.2]) ∧ Fr w W' (stT s t g r' c' (S.next q) :: os) :=
  (do_fr H q ht).mono fun _ _ ⟨he, r', c', h⟩ => ⟨r', c', he, h⟩
end Go.Proofs.YtpageppjngbnpaaDoor
