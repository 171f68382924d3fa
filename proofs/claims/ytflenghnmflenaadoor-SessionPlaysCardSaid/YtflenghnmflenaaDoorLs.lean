/-
  What is proved: the chapter's example, on lists. Conditions as stated.
-/
import Derived.Test.YtflenghnmflenaaDoorLa
namespace Go.Proofs.YtflenghnmflenaaDoor
open Go.RowKit
set_option maxRecDepth 100000
def sA : ByteArray := ⟨#[97]⟩
def sB : ByteArray := ⟨#[98]⟩
def s10 : ByteArray := ⟨#[49, 48]⟩
def s6 : ByteArray := ⟨#[54]⟩
def s4 : ByteArray := ⟨#[52]⟩
def s3 : ByteArray := ⟨#[51]⟩
def sX : ByteArray := ⟨#[120]⟩
def sE : ByteArray := ⟨#[]⟩
def o1 : MOp := ⟨2, sA, s10, sE, sE, 0⟩
def o2 : MOp := ⟨5, sA, sE, sE, sB, 4⟩
def o3 : MOp := ⟨1, sB, sE, sE, sE, 0⟩
def o4 : MOp := ⟨5, sB, sE, sE, sA, 5⟩
def o5 : MOp := ⟨4, sB, sX, s3, sE, 0⟩
theorem w1 : doR [] o1 = (no 0, [(sA, s10)]) := by decide +kernel
theorem w2 : doR [(sA, s10)] o2 = ((0, s6), [(sA, s6), (sB, s4)]) := by decide +kernel
theorem w3 : doR [(sA, s6), (sB, s4)] o3 = ((0, s4), [(sA, s6), (sB, s4)]) := by decide +kernel
theorem w4 : doR [(sA, s6), (sB, s4)] o4 = ((14, s4), [(sA, s6), (sB, s4)]) := by decide +kernel
theorem w5 : doR [(sA, s6), (sB, s4)] o5 = ((15, s4), [(sA, s6), (sB, s4)]) := by decide +kernel
end Go.Proofs.YtflenghnmflenaaDoor
