/-
  NARROWER THAN 'FOR EVERY INPUT', by the rows' own cells (each row's printed sentence says how): LorePlays: laid · LoreTells: laid · LoreForks: laid · LoreTurned: laid · WaitPlays: laid · WaitAll: laid · WaitNil: laid · WaitFlood: laid.
  DERIVED. THE GIVEN ROWS OF THIS SEAT. 8 by the template 'for every input the law returns true; each argument reads behind the call as it read before'; 0 by the template 'total and deterministic' (their statements: YtllbbcifcbkgeaaGreatDoorTotals.lean).
  GIVEN WITH THE SEED: the statements are not yours to turn. If you find one false, say at which input.
  Laid BY PROGRAM, IN A SANDBOX (cutbox-rows.mjs): the forced cells as the released guide's own fill.sh prints them over the translation a437c7f8ae5182e4… (all of the seat's roots in one cut). By AI agents, Wed Nov 11 2026. No macro, syntax, notation, axiom, sorry.
-/
import Derived.Test.YtllbbcifcbkgeaaGreatDoorChecked
import GoSem.Claim
import GoSem.ClaimJoined
import GoSem.ClaimMapViews
import Derived.JoinedTies
import Derived.KernelRfl
namespace Go.Proofs.YtllbbcifcbkgeaaGreatDoor
/- THE CELL 'sum', in the pinned program and in every row, IS THE sha256 OF THE DUMP (.gsa) THAT YtllbbcifcbkgeaaGreatDoorProg.lean LOADS. Nothing in Lean hashes anything: it is a label: what it is worth is what the hold of that sum in a sandbox is worth. -/
noncomputable def Tryz.pinned : Pinned := { name := "ytllbbcifcbkgeaagreatdoor", sum := "a437c7f8ae5182e418df09ee5787ea67cff2c0673f62c6abc4074bf459800256", checked := Tryz.checked }
namespace Rows
def none {H : Type} : Left H := { results := [], args := [] }

/- WHAT THE LISTED PACKAGE-LEVEL VARIABLES READ AS WHEN THE CALL BEGINS. Each datum BY PROGRAM (the guide's laid-datum.mjs) off the statement by which the dump's own 'gosem.cut.vars' lays the variable. In a bare row this is a premise. The card (YtllbbcifcbkgeaaGreatDoorCards.lean) ties it to the program's text. -/
def laid_ratchet_sha_k {H : Type} : DataW H := .agg [.lit (.int .u32 1116352408), .lit (.int .u32 1899447441), .lit (.int .u32 3049323471), .lit (.int .u32 3921009573), .lit (.int .u32 961987163), .lit (.int .u32 1508970993), .lit (.int .u32 2453635748), .lit (.int .u32 2870763221), .lit (.int .u32 3624381080), .lit (.int .u32 310598401), .lit (.int .u32 607225278), .lit (.int .u32 1426881987), .lit (.int .u32 1925078388), .lit (.int .u32 2162078206), .lit (.int .u32 2614888103), .lit (.int .u32 3248222580), .lit (.int .u32 3835390401), .lit (.int .u32 4022224774), .lit (.int .u32 264347078), .lit (.int .u32 604807628), .lit (.int .u32 770255983), .lit (.int .u32 1249150122), .lit (.int .u32 1555081692), .lit (.int .u32 1996064986), .lit (.int .u32 2554220882), .lit (.int .u32 2821834349), .lit (.int .u32 2952996808), .lit (.int .u32 3210313671), .lit (.int .u32 3336571891), .lit (.int .u32 3584528711), .lit (.int .u32 113926993), .lit (.int .u32 338241895), .lit (.int .u32 666307205), .lit (.int .u32 773529912), .lit (.int .u32 1294757372), .lit (.int .u32 1396182291), .lit (.int .u32 1695183700), .lit (.int .u32 1986661051), .lit (.int .u32 2177026350), .lit (.int .u32 2456956037), .lit (.int .u32 2730485921), .lit (.int .u32 2820302411), .lit (.int .u32 3259730800), .lit (.int .u32 3345764771), .lit (.int .u32 3516065817), .lit (.int .u32 3600352804), .lit (.int .u32 4094571909), .lit (.int .u32 275423344), .lit (.int .u32 430227734), .lit (.int .u32 506948616), .lit (.int .u32 659060556), .lit (.int .u32 883997877), .lit (.int .u32 958139571), .lit (.int .u32 1322822218), .lit (.int .u32 1537002063), .lit (.int .u32 1747873779), .lit (.int .u32 1955562222), .lit (.int .u32 2024104815), .lit (.int .u32 2227730452), .lit (.int .u32 2361852424), .lit (.int .u32 2428436474), .lit (.int .u32 2756734187), .lit (.int .u32 3204031479), .lit (.int .u32 3329325298)]

/-- 'ratchetlaw12.LorePlays': WHATEVER THE INPUT: true; the input reads as it did. -/
def lorePlaysSpec : ChangeSpec := { name := "lorePlays", fn := fun _ => fun
  | [d1, d2, d3, d4, d5, d6] => { results := [.lit (.bool true)], args := [d1, d2, d3, d4, d5, d6] }
  | _ => none }
def lorePlaysRow : OpenClaim := { program := "ytllbbcifcbkgeaagreatdoor", sum := "a437c7f8ae5182e418df09ee5787ea67cff2c0673f62c6abc4074bf459800256", func := "ratchet/ratchetlaw12.LorePlays", spec := "lorePlays", unfollowed := true, recurses := true, named := ["ratchet/sha.k"], plainKeys := false, apart := false, laid := [("ratchet/sha.k", laid_ratchet_sha_k)] }
def LorePlaysSaid : Prop := lorePlaysRow.holds Tryz.pinned (OpenSpec.ofChange lorePlaysSpec)

/-- ITS FALSE NEIGHBOUR: 'it returns false'. Refute it at one input. -/
def lorePlaysWrong : ChangeSpec := { name := "lorePlays", fn := fun _ => fun
  | [d1, d2, d3, d4, d5, d6] => { results := [.lit (.bool false)], args := [d1, d2, d3, d4, d5, d6] }
  | _ => none }
def LorePlaysWrongFalsely : Prop := lorePlaysRow.holds Tryz.pinned (OpenSpec.ofChange lorePlaysWrong)

/-- 'ratchetlaw12.LoreTells': WHATEVER THE INPUT: true; the input reads as it did. -/
def loreTellsSpec : ChangeSpec := { name := "loreTells", fn := fun _ => fun
  | [d1, d2, d3, d4] => { results := [.lit (.bool true)], args := [d1, d2, d3, d4] }
  | _ => none }
def loreTellsRow : OpenClaim := { program := "ytllbbcifcbkgeaagreatdoor", sum := "a437c7f8ae5182e418df09ee5787ea67cff2c0673f62c6abc4074bf459800256", func := "ratchet/ratchetlaw12.LoreTells", spec := "loreTells", unfollowed := true, recurses := true, named := ["ratchet/sha.k"], plainKeys := false, apart := false, laid := [("ratchet/sha.k", laid_ratchet_sha_k)] }
def LoreTellsSaid : Prop := loreTellsRow.holds Tryz.pinned (OpenSpec.ofChange loreTellsSpec)

/-- ITS FALSE NEIGHBOUR: 'it returns false'. Refute it at one input. -/
def loreTellsWrong : ChangeSpec := { name := "loreTells", fn := fun _ => fun
  | [d1, d2, d3, d4] => { results := [.lit (.bool false)], args := [d1, d2, d3, d4] }
  | _ => none }
def LoreTellsWrongFalsely : Prop := loreTellsRow.holds Tryz.pinned (OpenSpec.ofChange loreTellsWrong)

/-- 'ratchetlaw12.LoreForks': WHATEVER THE INPUT: true; the input reads as it did. -/
def loreForksSpec : ChangeSpec := { name := "loreForks", fn := fun _ => fun
  | [d1, d2, d3, d4] => { results := [.lit (.bool true)], args := [d1, d2, d3, d4] }
  | _ => none }
def loreForksRow : OpenClaim := { program := "ytllbbcifcbkgeaagreatdoor", sum := "a437c7f8ae5182e418df09ee5787ea67cff2c0673f62c6abc4074bf459800256", func := "ratchet/ratchetlaw12.LoreForks", spec := "loreForks", unfollowed := true, recurses := true, named := ["ratchet/sha.k"], plainKeys := false, apart := false, laid := [("ratchet/sha.k", laid_ratchet_sha_k)] }
def LoreForksSaid : Prop := loreForksRow.holds Tryz.pinned (OpenSpec.ofChange loreForksSpec)

/-- ITS FALSE NEIGHBOUR: 'it returns false'. Refute it at one input. -/
def loreForksWrong : ChangeSpec := { name := "loreForks", fn := fun _ => fun
  | [d1, d2, d3, d4] => { results := [.lit (.bool false)], args := [d1, d2, d3, d4] }
  | _ => none }
def LoreForksWrongFalsely : Prop := loreForksRow.holds Tryz.pinned (OpenSpec.ofChange loreForksWrong)

/-- 'ratchetlaw12.LoreTurned': WHATEVER THE INPUT: true; the input reads as it did. -/
def loreTurnedSpec : ChangeSpec := { name := "loreTurned", fn := fun _ => fun
  | [d1, d2, d3, d4, d5] => { results := [.lit (.bool true)], args := [d1, d2, d3, d4, d5] }
  | _ => none }
def loreTurnedRow : OpenClaim := { program := "ytllbbcifcbkgeaagreatdoor", sum := "a437c7f8ae5182e418df09ee5787ea67cff2c0673f62c6abc4074bf459800256", func := "ratchet/ratchetlaw12.LoreTurned", spec := "loreTurned", unfollowed := true, recurses := true, named := ["ratchet/sha.k"], plainKeys := false, apart := false, laid := [("ratchet/sha.k", laid_ratchet_sha_k)] }
def LoreTurnedSaid : Prop := loreTurnedRow.holds Tryz.pinned (OpenSpec.ofChange loreTurnedSpec)

/-- ITS FALSE NEIGHBOUR: 'it returns false'. Refute it at one input. -/
def loreTurnedWrong : ChangeSpec := { name := "loreTurned", fn := fun _ => fun
  | [d1, d2, d3, d4, d5] => { results := [.lit (.bool false)], args := [d1, d2, d3, d4, d5] }
  | _ => none }
def LoreTurnedWrongFalsely : Prop := loreTurnedRow.holds Tryz.pinned (OpenSpec.ofChange loreTurnedWrong)

/-- 'ratchetlaw13.WaitPlays': WHATEVER THE INPUT: true; the input reads as it did. -/
def waitPlaysSpec : ChangeSpec := { name := "waitPlays", fn := fun _ => fun
  | [d1, d2, d3] => { results := [.lit (.bool true)], args := [d1, d2, d3] }
  | _ => none }
def waitPlaysRow : OpenClaim := { program := "ytllbbcifcbkgeaagreatdoor", sum := "a437c7f8ae5182e418df09ee5787ea67cff2c0673f62c6abc4074bf459800256", func := "ratchet/ratchetlaw13.WaitPlays", spec := "waitPlays", unfollowed := true, recurses := true, named := ["ratchet/sha.k"], plainKeys := false, apart := false, laid := [("ratchet/sha.k", laid_ratchet_sha_k)] }
def WaitPlaysSaid : Prop := waitPlaysRow.holds Tryz.pinned (OpenSpec.ofChange waitPlaysSpec)

/-- ITS FALSE NEIGHBOUR: 'it returns false'. Refute it at one input. -/
def waitPlaysWrong : ChangeSpec := { name := "waitPlays", fn := fun _ => fun
  | [d1, d2, d3] => { results := [.lit (.bool false)], args := [d1, d2, d3] }
  | _ => none }
def WaitPlaysWrongFalsely : Prop := waitPlaysRow.holds Tryz.pinned (OpenSpec.ofChange waitPlaysWrong)

/-- 'ratchetlaw13.WaitAll': WHATEVER THE INPUT: true; the input reads as it did. -/
def waitAllSpec : ChangeSpec := { name := "waitAll", fn := fun _ => fun
  | [d1, d2, d3] => { results := [.lit (.bool true)], args := [d1, d2, d3] }
  | _ => none }
def waitAllRow : OpenClaim := { program := "ytllbbcifcbkgeaagreatdoor", sum := "a437c7f8ae5182e418df09ee5787ea67cff2c0673f62c6abc4074bf459800256", func := "ratchet/ratchetlaw13.WaitAll", spec := "waitAll", unfollowed := true, recurses := true, named := ["ratchet/sha.k"], plainKeys := false, apart := false, laid := [("ratchet/sha.k", laid_ratchet_sha_k)] }
def WaitAllSaid : Prop := waitAllRow.holds Tryz.pinned (OpenSpec.ofChange waitAllSpec)

/-- ITS FALSE NEIGHBOUR: 'it returns false'. Refute it at one input. -/
def waitAllWrong : ChangeSpec := { name := "waitAll", fn := fun _ => fun
  | [d1, d2, d3] => { results := [.lit (.bool false)], args := [d1, d2, d3] }
  | _ => none }
def WaitAllWrongFalsely : Prop := waitAllRow.holds Tryz.pinned (OpenSpec.ofChange waitAllWrong)

/-- 'ratchetlaw13.WaitNil': WHATEVER THE INPUT: true; the input reads as it did. -/
def waitNilSpec : ChangeSpec := { name := "waitNil", fn := fun _ => fun
  | [d] => { results := [.lit (.bool true)], args := [d] }
  | _ => none }
def waitNilRow : OpenClaim := { program := "ytllbbcifcbkgeaagreatdoor", sum := "a437c7f8ae5182e418df09ee5787ea67cff2c0673f62c6abc4074bf459800256", func := "ratchet/ratchetlaw13.WaitNil", spec := "waitNil", unfollowed := true, recurses := true, named := ["ratchet/sha.k"], plainKeys := false, apart := false, laid := [("ratchet/sha.k", laid_ratchet_sha_k)] }
def WaitNilSaid : Prop := waitNilRow.holds Tryz.pinned (OpenSpec.ofChange waitNilSpec)

/-- ITS FALSE NEIGHBOUR: 'it returns false'. Refute it at one input. -/
def waitNilWrong : ChangeSpec := { name := "waitNil", fn := fun _ => fun
  | [d] => { results := [.lit (.bool false)], args := [d] }
  | _ => none }
def WaitNilWrongFalsely : Prop := waitNilRow.holds Tryz.pinned (OpenSpec.ofChange waitNilWrong)

/-- 'ratchetlaw13.WaitFlood': WHATEVER THE INPUT: true; the input reads as it did. -/
def waitFloodSpec : ChangeSpec := { name := "waitFlood", fn := fun _ => fun
  | [d1, d2, d3] => { results := [.lit (.bool true)], args := [d1, d2, d3] }
  | _ => none }
def waitFloodRow : OpenClaim := { program := "ytllbbcifcbkgeaagreatdoor", sum := "a437c7f8ae5182e418df09ee5787ea67cff2c0673f62c6abc4074bf459800256", func := "ratchet/ratchetlaw13.WaitFlood", spec := "waitFlood", unfollowed := true, recurses := true, named := ["ratchet/sha.k"], plainKeys := false, apart := false, laid := [("ratchet/sha.k", laid_ratchet_sha_k)] }
def WaitFloodSaid : Prop := waitFloodRow.holds Tryz.pinned (OpenSpec.ofChange waitFloodSpec)

/-- ITS FALSE NEIGHBOUR: 'it returns false'. Refute it at one input. -/
def waitFloodWrong : ChangeSpec := { name := "waitFlood", fn := fun _ => fun
  | [d1, d2, d3] => { results := [.lit (.bool false)], args := [d1, d2, d3] }
  | _ => none }
def WaitFloodWrongFalsely : Prop := waitFloodRow.holds Tryz.pinned (OpenSpec.ofChange waitFloodWrong)

/- THE SECOND FORM. 'bulk': how many values and letters a reading holds, each counted each time it is reached (what is shared counts as often as it is met; a slice's spare places count too). A statement '..UptoSaid' is the law's where the arguments, and the package variables that the reading takes, are together of bulk at most 1048576: NARROWER than '..Said'. Prove '..Said' where nothing that the law and all that it calls make is longer than what came in: it says more and counts as full. Else prove '..UptoSaid'. A law counts once. -/
mutual
def uptoBulk {H : Type} : DataW H → Nat
  | .lit (.string bytes) => bytes.length + 1
  | .lit _ => 1
  | .nil => 1
  | .ptr d => uptoBulk d + 1
  | .slice elems spare => uptoBulkAll elems + uptoBulkAll spare + 1
  | .agg parts => uptoBulkAll parts + 1
  | .iface _ d => uptoBulk d + 1
  | .map entries => uptoBulkEntries entries + 1
  | .held _ => 1
def uptoBulkAll {H : Type} : List (DataW H) → Nat
  | [] => 0
  | d :: r => uptoBulk d + uptoBulkAll r
def uptoBulkEntries {H : Type} : List (Lit × DataW H) → Nat
  | [] => 0
  | x :: r => uptoBulkEntry x + uptoBulkEntries r
def uptoBulkEntry {H : Type} : Lit × DataW H → Nat
  | (.string bytes, d) => bytes.length + uptoBulk d + 1
  | (_, d) => uptoBulk d + 1
 end
def uptoSmall : (H : Type) → List (DataW H) → Bool := fun _ ds => decide (uptoBulkAll ds ≤ 1048576)
def OpenSpec.upto (s : _root_.Go.ChangeSpec) : _root_.Go.OpenSpec := { _root_.Go.OpenSpec.ofChange s with cond := some uptoSmall }

/-- 'ratchetlaw12.LorePlays', WHERE WHAT IT READS IS OF BULK AT MOST 1048576: true; the input reads as it did. -/
def lorePlaysUptoRow : OpenClaim := { program := "ytllbbcifcbkgeaagreatdoor", sum := "a437c7f8ae5182e418df09ee5787ea67cff2c0673f62c6abc4074bf459800256", func := "ratchet/ratchetlaw12.LorePlays", spec := "lorePlays", unfollowed := true, recurses := true, named := ["ratchet/sha.k"], plainKeys := false, apart := false, laid := [("ratchet/sha.k", laid_ratchet_sha_k)], narrowed := true }
def LorePlaysUptoSaid : Prop := lorePlaysUptoRow.holds Tryz.pinned (OpenSpec.upto lorePlaysSpec)

/-- 'ratchetlaw12.LoreTells', WHERE WHAT IT READS IS OF BULK AT MOST 1048576: true; the input reads as it did. -/
def loreTellsUptoRow : OpenClaim := { program := "ytllbbcifcbkgeaagreatdoor", sum := "a437c7f8ae5182e418df09ee5787ea67cff2c0673f62c6abc4074bf459800256", func := "ratchet/ratchetlaw12.LoreTells", spec := "loreTells", unfollowed := true, recurses := true, named := ["ratchet/sha.k"], plainKeys := false, apart := false, laid := [("ratchet/sha.k", laid_ratchet_sha_k)], narrowed := true }
def LoreTellsUptoSaid : Prop := loreTellsUptoRow.holds Tryz.pinned (OpenSpec.upto loreTellsSpec)

/-- 'ratchetlaw12.LoreForks', WHERE WHAT IT READS IS OF BULK AT MOST 1048576: true; the input reads as it did. -/
def loreForksUptoRow : OpenClaim := { program := "ytllbbcifcbkgeaagreatdoor", sum := "a437c7f8ae5182e418df09ee5787ea67cff2c0673f62c6abc4074bf459800256", func := "ratchet/ratchetlaw12.LoreForks", spec := "loreForks", unfollowed := true, recurses := true, named := ["ratchet/sha.k"], plainKeys := false, apart := false, laid := [("ratchet/sha.k", laid_ratchet_sha_k)], narrowed := true }
def LoreForksUptoSaid : Prop := loreForksUptoRow.holds Tryz.pinned (OpenSpec.upto loreForksSpec)

/-- 'ratchetlaw12.LoreTurned', WHERE WHAT IT READS IS OF BULK AT MOST 1048576: true; the input reads as it did. -/
def loreTurnedUptoRow : OpenClaim := { program := "ytllbbcifcbkgeaagreatdoor", sum := "a437c7f8ae5182e418df09ee5787ea67cff2c0673f62c6abc4074bf459800256", func := "ratchet/ratchetlaw12.LoreTurned", spec := "loreTurned", unfollowed := true, recurses := true, named := ["ratchet/sha.k"], plainKeys := false, apart := false, laid := [("ratchet/sha.k", laid_ratchet_sha_k)], narrowed := true }
def LoreTurnedUptoSaid : Prop := loreTurnedUptoRow.holds Tryz.pinned (OpenSpec.upto loreTurnedSpec)

/-- 'ratchetlaw13.WaitPlays', WHERE WHAT IT READS IS OF BULK AT MOST 1048576: true; the input reads as it did. -/
def waitPlaysUptoRow : OpenClaim := { program := "ytllbbcifcbkgeaagreatdoor", sum := "a437c7f8ae5182e418df09ee5787ea67cff2c0673f62c6abc4074bf459800256", func := "ratchet/ratchetlaw13.WaitPlays", spec := "waitPlays", unfollowed := true, recurses := true, named := ["ratchet/sha.k"], plainKeys := false, apart := false, laid := [("ratchet/sha.k", laid_ratchet_sha_k)], narrowed := true }
def WaitPlaysUptoSaid : Prop := waitPlaysUptoRow.holds Tryz.pinned (OpenSpec.upto waitPlaysSpec)

/-- 'ratchetlaw13.WaitAll', WHERE WHAT IT READS IS OF BULK AT MOST 1048576: true; the input reads as it did. -/
def waitAllUptoRow : OpenClaim := { program := "ytllbbcifcbkgeaagreatdoor", sum := "a437c7f8ae5182e418df09ee5787ea67cff2c0673f62c6abc4074bf459800256", func := "ratchet/ratchetlaw13.WaitAll", spec := "waitAll", unfollowed := true, recurses := true, named := ["ratchet/sha.k"], plainKeys := false, apart := false, laid := [("ratchet/sha.k", laid_ratchet_sha_k)], narrowed := true }
def WaitAllUptoSaid : Prop := waitAllUptoRow.holds Tryz.pinned (OpenSpec.upto waitAllSpec)

/-- 'ratchetlaw13.WaitNil', WHERE WHAT IT READS IS OF BULK AT MOST 1048576: true; the input reads as it did. -/
def waitNilUptoRow : OpenClaim := { program := "ytllbbcifcbkgeaagreatdoor", sum := "a437c7f8ae5182e418df09ee5787ea67cff2c0673f62c6abc4074bf459800256", func := "ratchet/ratchetlaw13.WaitNil", spec := "waitNil", unfollowed := true, recurses := true, named := ["ratchet/sha.k"], plainKeys := false, apart := false, laid := [("ratchet/sha.k", laid_ratchet_sha_k)], narrowed := true }
def WaitNilUptoSaid : Prop := waitNilUptoRow.holds Tryz.pinned (OpenSpec.upto waitNilSpec)

/-- 'ratchetlaw13.WaitFlood', WHERE WHAT IT READS IS OF BULK AT MOST 1048576: true; the input reads as it did. -/
def waitFloodUptoRow : OpenClaim := { program := "ytllbbcifcbkgeaagreatdoor", sum := "a437c7f8ae5182e418df09ee5787ea67cff2c0673f62c6abc4074bf459800256", func := "ratchet/ratchetlaw13.WaitFlood", spec := "waitFlood", unfollowed := true, recurses := true, named := ["ratchet/sha.k"], plainKeys := false, apart := false, laid := [("ratchet/sha.k", laid_ratchet_sha_k)], narrowed := true }
def WaitFloodUptoSaid : Prop := waitFloodUptoRow.holds Tryz.pinned (OpenSpec.upto waitFloodSpec)

end Rows
end Go.Proofs.YtllbbcifcbkgeaaGreatDoor
