/-
  NARROWER THAN 'FOR EVERY INPUT', by the rows' own cells (each row's printed sentence says how): MessagePlays: laid · MessageGets: laid · MessageRequests: laid · MessageBack: laid · MessageTags: laid · MessageSizes: laid · MessageOwn: laid.
  DERIVED. THE GIVEN ROWS OF THIS SEAT. 7 by the template 'for every input the law returns true; each argument reads behind the call as it read before'; 0 by the template 'total and deterministic' (their statements: YtghjogneogkpoaaGreatDoorTotals.lean).
  GIVEN WITH THE SEED: the statements are not yours to turn. If you find one false, say at which input.
  Laid BY PROGRAM, IN A SANDBOX (cutbox-rows.mjs): the forced cells as the released guide's own fill.sh prints them over the translation 7febe97af1cc1cbb… (all of the seat's roots in one cut). By AI agents, Wed Nov 11 2026. No macro, syntax, notation, axiom, sorry.
-/
import Derived.Test.YtghjogneogkpoaaGreatDoorChecked
import GoSem.Claim
import GoSem.ClaimJoined
import GoSem.ClaimMapViews
import Derived.JoinedTies
import Derived.KernelRfl
namespace Go.Proofs.YtghjogneogkpoaaGreatDoor
/- THE CELL 'sum', in the pinned program and in every row, IS THE sha256 OF THE DUMP (.gsa) THAT YtghjogneogkpoaaGreatDoorProg.lean LOADS. Nothing in Lean hashes anything: it is a label: what it is worth is what the hold of that sum in a sandbox is worth. -/
noncomputable def Tryz.pinned : Pinned := { name := "ytghjogneogkpoaagreatdoor", sum := "7febe97af1cc1cbbe23e81b234b40e9b139d162e53d1e7be69876b73f28d3cdf", checked := Tryz.checked }
namespace Rows
def none {H : Type} : Left H := { results := [], args := [] }

/- WHAT THE LISTED PACKAGE-LEVEL VARIABLES READ AS WHEN THE CALL BEGINS. Each datum BY PROGRAM (the guide's laid-datum.mjs) off the statement by which the dump's own 'gosem.cut.vars' lays the variable. In a bare row this is a premise. The card (YtghjogneogkpoaaGreatDoorCards.lean) ties it to the program's text. -/
def laid_ratchet_sha_k {H : Type} : DataW H := .agg [.lit (.int .u32 1116352408), .lit (.int .u32 1899447441), .lit (.int .u32 3049323471), .lit (.int .u32 3921009573), .lit (.int .u32 961987163), .lit (.int .u32 1508970993), .lit (.int .u32 2453635748), .lit (.int .u32 2870763221), .lit (.int .u32 3624381080), .lit (.int .u32 310598401), .lit (.int .u32 607225278), .lit (.int .u32 1426881987), .lit (.int .u32 1925078388), .lit (.int .u32 2162078206), .lit (.int .u32 2614888103), .lit (.int .u32 3248222580), .lit (.int .u32 3835390401), .lit (.int .u32 4022224774), .lit (.int .u32 264347078), .lit (.int .u32 604807628), .lit (.int .u32 770255983), .lit (.int .u32 1249150122), .lit (.int .u32 1555081692), .lit (.int .u32 1996064986), .lit (.int .u32 2554220882), .lit (.int .u32 2821834349), .lit (.int .u32 2952996808), .lit (.int .u32 3210313671), .lit (.int .u32 3336571891), .lit (.int .u32 3584528711), .lit (.int .u32 113926993), .lit (.int .u32 338241895), .lit (.int .u32 666307205), .lit (.int .u32 773529912), .lit (.int .u32 1294757372), .lit (.int .u32 1396182291), .lit (.int .u32 1695183700), .lit (.int .u32 1986661051), .lit (.int .u32 2177026350), .lit (.int .u32 2456956037), .lit (.int .u32 2730485921), .lit (.int .u32 2820302411), .lit (.int .u32 3259730800), .lit (.int .u32 3345764771), .lit (.int .u32 3516065817), .lit (.int .u32 3600352804), .lit (.int .u32 4094571909), .lit (.int .u32 275423344), .lit (.int .u32 430227734), .lit (.int .u32 506948616), .lit (.int .u32 659060556), .lit (.int .u32 883997877), .lit (.int .u32 958139571), .lit (.int .u32 1322822218), .lit (.int .u32 1537002063), .lit (.int .u32 1747873779), .lit (.int .u32 1955562222), .lit (.int .u32 2024104815), .lit (.int .u32 2227730452), .lit (.int .u32 2361852424), .lit (.int .u32 2428436474), .lit (.int .u32 2756734187), .lit (.int .u32 3204031479), .lit (.int .u32 3329325298)]

/-- 'ratchetlaw08.MessagePlays': WHATEVER THE INPUT: true; the input reads as it did. -/
def messagePlaysSpec : ChangeSpec := { name := "messagePlays", fn := fun _ => fun
  | [d1, d2] => { results := [.lit (.bool true)], args := [d1, d2] }
  | _ => none }
def messagePlaysRow : OpenClaim := { program := "ytghjogneogkpoaagreatdoor", sum := "7febe97af1cc1cbbe23e81b234b40e9b139d162e53d1e7be69876b73f28d3cdf", func := "ratchet/ratchetlaw08.MessagePlays", spec := "messagePlays", unfollowed := true, recurses := true, named := ["ratchet/sha.k"], apart := false, laid := [("ratchet/sha.k", laid_ratchet_sha_k)] }
def MessagePlaysSaid : Prop := messagePlaysRow.holds Tryz.pinned (OpenSpec.ofChange messagePlaysSpec)

/-- ITS FALSE NEIGHBOUR: 'it returns false'. Refute it at one input. -/
def messagePlaysWrong : ChangeSpec := { name := "messagePlays", fn := fun _ => fun
  | [d1, d2] => { results := [.lit (.bool false)], args := [d1, d2] }
  | _ => none }
def MessagePlaysWrongFalsely : Prop := messagePlaysRow.holds Tryz.pinned (OpenSpec.ofChange messagePlaysWrong)

/-- 'ratchetlaw08.MessageGets': WHATEVER THE INPUT: true; the input reads as it did. -/
def messageGetsSpec : ChangeSpec := { name := "messageGets", fn := fun _ => fun
  | [d1, d2, d3, d4] => { results := [.lit (.bool true)], args := [d1, d2, d3, d4] }
  | _ => none }
def messageGetsRow : OpenClaim := { program := "ytghjogneogkpoaagreatdoor", sum := "7febe97af1cc1cbbe23e81b234b40e9b139d162e53d1e7be69876b73f28d3cdf", func := "ratchet/ratchetlaw08.MessageGets", spec := "messageGets", unfollowed := true, recurses := true, named := ["ratchet/sha.k"], apart := false, laid := [("ratchet/sha.k", laid_ratchet_sha_k)] }
def MessageGetsSaid : Prop := messageGetsRow.holds Tryz.pinned (OpenSpec.ofChange messageGetsSpec)

/-- ITS FALSE NEIGHBOUR: 'it returns false'. Refute it at one input. -/
def messageGetsWrong : ChangeSpec := { name := "messageGets", fn := fun _ => fun
  | [d1, d2, d3, d4] => { results := [.lit (.bool false)], args := [d1, d2, d3, d4] }
  | _ => none }
def MessageGetsWrongFalsely : Prop := messageGetsRow.holds Tryz.pinned (OpenSpec.ofChange messageGetsWrong)

/-- 'ratchetlaw08.MessageRequests': WHATEVER THE INPUT: true; the input reads as it did. -/
def messageRequestsSpec : ChangeSpec := { name := "messageRequests", fn := fun _ => fun
  | [d1, d2] => { results := [.lit (.bool true)], args := [d1, d2] }
  | _ => none }
def messageRequestsRow : OpenClaim := { program := "ytghjogneogkpoaagreatdoor", sum := "7febe97af1cc1cbbe23e81b234b40e9b139d162e53d1e7be69876b73f28d3cdf", func := "ratchet/ratchetlaw08.MessageRequests", spec := "messageRequests", unfollowed := true, recurses := true, named := ["ratchet/sha.k"], apart := false, laid := [("ratchet/sha.k", laid_ratchet_sha_k)] }
def MessageRequestsSaid : Prop := messageRequestsRow.holds Tryz.pinned (OpenSpec.ofChange messageRequestsSpec)

/-- ITS FALSE NEIGHBOUR: 'it returns false'. Refute it at one input. -/
def messageRequestsWrong : ChangeSpec := { name := "messageRequests", fn := fun _ => fun
  | [d1, d2] => { results := [.lit (.bool false)], args := [d1, d2] }
  | _ => none }
def MessageRequestsWrongFalsely : Prop := messageRequestsRow.holds Tryz.pinned (OpenSpec.ofChange messageRequestsWrong)

/-- 'ratchetlaw08.MessageBack': WHATEVER THE INPUT: true; the input reads as it did. -/
def messageBackSpec : ChangeSpec := { name := "messageBack", fn := fun _ => fun
  | [d1, d2, d3, d4] => { results := [.lit (.bool true)], args := [d1, d2, d3, d4] }
  | _ => none }
def messageBackRow : OpenClaim := { program := "ytghjogneogkpoaagreatdoor", sum := "7febe97af1cc1cbbe23e81b234b40e9b139d162e53d1e7be69876b73f28d3cdf", func := "ratchet/ratchetlaw08.MessageBack", spec := "messageBack", unfollowed := true, recurses := true, named := ["ratchet/sha.k"], apart := false, laid := [("ratchet/sha.k", laid_ratchet_sha_k)] }
def MessageBackSaid : Prop := messageBackRow.holds Tryz.pinned (OpenSpec.ofChange messageBackSpec)

/-- ITS FALSE NEIGHBOUR: 'it returns false'. Refute it at one input. -/
def messageBackWrong : ChangeSpec := { name := "messageBack", fn := fun _ => fun
  | [d1, d2, d3, d4] => { results := [.lit (.bool false)], args := [d1, d2, d3, d4] }
  | _ => none }
def MessageBackWrongFalsely : Prop := messageBackRow.holds Tryz.pinned (OpenSpec.ofChange messageBackWrong)

/-- 'ratchetlaw08.MessageTags': WHATEVER THE INPUT: true; the input reads as it did. -/
def messageTagsSpec : ChangeSpec := { name := "messageTags", fn := fun _ => fun
  | [d1, d2, d3] => { results := [.lit (.bool true)], args := [d1, d2, d3] }
  | _ => none }
def messageTagsRow : OpenClaim := { program := "ytghjogneogkpoaagreatdoor", sum := "7febe97af1cc1cbbe23e81b234b40e9b139d162e53d1e7be69876b73f28d3cdf", func := "ratchet/ratchetlaw08.MessageTags", spec := "messageTags", unfollowed := true, recurses := true, named := ["ratchet/sha.k"], apart := false, laid := [("ratchet/sha.k", laid_ratchet_sha_k)] }
def MessageTagsSaid : Prop := messageTagsRow.holds Tryz.pinned (OpenSpec.ofChange messageTagsSpec)

/-- ITS FALSE NEIGHBOUR: 'it returns false'. Refute it at one input. -/
def messageTagsWrong : ChangeSpec := { name := "messageTags", fn := fun _ => fun
  | [d1, d2, d3] => { results := [.lit (.bool false)], args := [d1, d2, d3] }
  | _ => none }
def MessageTagsWrongFalsely : Prop := messageTagsRow.holds Tryz.pinned (OpenSpec.ofChange messageTagsWrong)

/-- 'ratchetlaw08.MessageSizes': WHATEVER THE INPUT: true; the input reads as it did. -/
def messageSizesSpec : ChangeSpec := { name := "messageSizes", fn := fun _ => fun
  | [d] => { results := [.lit (.bool true)], args := [d] }
  | _ => none }
def messageSizesRow : OpenClaim := { program := "ytghjogneogkpoaagreatdoor", sum := "7febe97af1cc1cbbe23e81b234b40e9b139d162e53d1e7be69876b73f28d3cdf", func := "ratchet/ratchetlaw08.MessageSizes", spec := "messageSizes", unfollowed := true, recurses := true, named := ["ratchet/sha.k"], apart := false, laid := [("ratchet/sha.k", laid_ratchet_sha_k)] }
def MessageSizesSaid : Prop := messageSizesRow.holds Tryz.pinned (OpenSpec.ofChange messageSizesSpec)

/-- ITS FALSE NEIGHBOUR: 'it returns false'. Refute it at one input. -/
def messageSizesWrong : ChangeSpec := { name := "messageSizes", fn := fun _ => fun
  | [d] => { results := [.lit (.bool false)], args := [d] }
  | _ => none }
def MessageSizesWrongFalsely : Prop := messageSizesRow.holds Tryz.pinned (OpenSpec.ofChange messageSizesWrong)

/-- 'ratchetlaw08.MessageOwn': WHATEVER THE INPUT: true; the input reads as it did. -/
def messageOwnSpec : ChangeSpec := { name := "messageOwn", fn := fun _ => fun
  | [d] => { results := [.lit (.bool true)], args := [d] }
  | _ => none }
def messageOwnRow : OpenClaim := { program := "ytghjogneogkpoaagreatdoor", sum := "7febe97af1cc1cbbe23e81b234b40e9b139d162e53d1e7be69876b73f28d3cdf", func := "ratchet/ratchetlaw08.MessageOwn", spec := "messageOwn", unfollowed := true, recurses := true, named := ["ratchet/sha.k"], apart := false, laid := [("ratchet/sha.k", laid_ratchet_sha_k)] }
def MessageOwnSaid : Prop := messageOwnRow.holds Tryz.pinned (OpenSpec.ofChange messageOwnSpec)

/-- ITS FALSE NEIGHBOUR: 'it returns false'. Refute it at one input. -/
def messageOwnWrong : ChangeSpec := { name := "messageOwn", fn := fun _ => fun
  | [d] => { results := [.lit (.bool false)], args := [d] }
  | _ => none }
def MessageOwnWrongFalsely : Prop := messageOwnRow.holds Tryz.pinned (OpenSpec.ofChange messageOwnWrong)

/- THE SECOND FORM. 'bulk': how many values and letters a reading holds, each counted each time it is reached (what is shared counts as often as it is met; a slice's spare places count too). A statement '..UptoSaid' is the law's where the arguments, and the package variables that the reading takes, are together of bulk at most 1048576: NARROWER than '..Said'. Prove '..Said' where nothing that the law and all that it calls make is longer than what came in: it says more and counts as full. Else prove '..UptoSaid'. A law counts once. -/
mutual
def uptoBulk {H : Type} : DataW H → Nat
  | .lit (.string bytes) => bytes.length + 1
  | .lit _ => 1
  | .nil => 1
  | .ptr d => uptoBulk d + 1
  | .slice elems spare => uptoBulkAll elems + uptoBulkAll spare + 1
  | .agg parts => uptoBulkAll parts + 1
  | .iface _ d => uptoBulk d + 1
  | .map entries => uptoBulkEntries entries + 1
  | .held _ => 1
def uptoBulkAll {H : Type} : List (DataW H) → Nat
  | [] => 0
  | d :: r => uptoBulk d + uptoBulkAll r
def uptoBulkEntries {H : Type} : List (Lit × DataW H) → Nat
  | [] => 0
  | x :: r => uptoBulkEntry x + uptoBulkEntries r
def uptoBulkEntry {H : Type} : Lit × DataW H → Nat
  | (.string bytes, d) => bytes.length + uptoBulk d + 1
  | (_, d) => uptoBulk d + 1
 end
def uptoSmall : (H : Type) → List (DataW H) → Bool := fun _ ds => decide (uptoBulkAll ds ≤ 1048576)
def OpenSpec.upto (s : _root_.Go.ChangeSpec) : _root_.Go.OpenSpec := { _root_.Go.OpenSpec.ofChange s with cond := some uptoSmall }

/-- 'ratchetlaw08.MessagePlays', WHERE WHAT IT READS IS OF BULK AT MOST 1048576: true; the input reads as it did. -/
def messagePlaysUptoRow : OpenClaim := { program := "ytghjogneogkpoaagreatdoor", sum := "7febe97af1cc1cbbe23e81b234b40e9b139d162e53d1e7be69876b73f28d3cdf", func := "ratchet/ratchetlaw08.MessagePlays", spec := "messagePlays", unfollowed := true, recurses := true, named := ["ratchet/sha.k"], apart := false, laid := [("ratchet/sha.k", laid_ratchet_sha_k)], narrowed := true }
def MessagePlaysUptoSaid : Prop := messagePlaysUptoRow.holds Tryz.pinned (OpenSpec.upto messagePlaysSpec)

/-- 'ratchetlaw08.MessageGets', WHERE WHAT IT READS IS OF BULK AT MOST 1048576: true; the input reads as it did. -/
def messageGetsUptoRow : OpenClaim := { program := "ytghjogneogkpoaagreatdoor", sum := "7febe97af1cc1cbbe23e81b234b40e9b139d162e53d1e7be69876b73f28d3cdf", func := "ratchet/ratchetlaw08.MessageGets", spec := "messageGets", unfollowed := true, recurses := true, named := ["ratchet/sha.k"], apart := false, laid := [("ratchet/sha.k", laid_ratchet_sha_k)], narrowed := true }
def MessageGetsUptoSaid : Prop := messageGetsUptoRow.holds Tryz.pinned (OpenSpec.upto messageGetsSpec)

/-- 'ratchetlaw08.MessageRequests', WHERE WHAT IT READS IS OF BULK AT MOST 1048576: true; the input reads as it did. -/
def messageRequestsUptoRow : OpenClaim := { program := "ytghjogneogkpoaagreatdoor", sum := "7febe97af1cc1cbbe23e81b234b40e9b139d162e53d1e7be69876b73f28d3cdf", func := "ratchet/ratchetlaw08.MessageRequests", spec := "messageRequests", unfollowed := true, recurses := true, named := ["ratchet/sha.k"], apart := false, laid := [("ratchet/sha.k", laid_ratchet_sha_k)], narrowed := true }
def MessageRequestsUptoSaid : Prop := messageRequestsUptoRow.holds Tryz.pinned (OpenSpec.upto messageRequestsSpec)

/-- 'ratchetlaw08.MessageBack', WHERE WHAT IT READS IS OF BULK AT MOST 1048576: true; the input reads as it did. -/
def messageBackUptoRow : OpenClaim := { program := "ytghjogneogkpoaagreatdoor", sum := "7febe97af1cc1cbbe23e81b234b40e9b139d162e53d1e7be69876b73f28d3cdf", func := "ratchet/ratchetlaw08.MessageBack", spec := "messageBack", unfollowed := true, recurses := true, named := ["ratchet/sha.k"], apart := false, laid := [("ratchet/sha.k", laid_ratchet_sha_k)], narrowed := true }
def MessageBackUptoSaid : Prop := messageBackUptoRow.holds Tryz.pinned (OpenSpec.upto messageBackSpec)

/-- 'ratchetlaw08.MessageTags', WHERE WHAT IT READS IS OF BULK AT MOST 1048576: true; the input reads as it did. -/
def messageTagsUptoRow : OpenClaim := { program := "ytghjogneogkpoaagreatdoor", sum := "7febe97af1cc1cbbe23e81b234b40e9b139d162e53d1e7be69876b73f28d3cdf", func := "ratchet/ratchetlaw08.MessageTags", spec := "messageTags", unfollowed := true, recurses := true, named := ["ratchet/sha.k"], apart := false, laid := [("ratchet/sha.k", laid_ratchet_sha_k)], narrowed := true }
def MessageTagsUptoSaid : Prop := messageTagsUptoRow.holds Tryz.pinned (OpenSpec.upto messageTagsSpec)

/-- 'ratchetlaw08.MessageSizes', WHERE WHAT IT READS IS OF BULK AT MOST 1048576: true; the input reads as it did. -/
def messageSizesUptoRow : OpenClaim := { program := "ytghjogneogkpoaagreatdoor", sum := "7febe97af1cc1cbbe23e81b234b40e9b139d162e53d1e7be69876b73f28d3cdf", func := "ratchet/ratchetlaw08.MessageSizes", spec := "messageSizes", unfollowed := true, recurses := true, named := ["ratchet/sha.k"], apart := false, laid := [("ratchet/sha.k", laid_ratchet_sha_k)], narrowed := true }
def MessageSizesUptoSaid : Prop := messageSizesUptoRow.holds Tryz.pinned (OpenSpec.upto messageSizesSpec)

/-- 'ratchetlaw08.MessageOwn', WHERE WHAT IT READS IS OF BULK AT MOST 1048576: true; the input reads as it did. -/
def messageOwnUptoRow : OpenClaim := { program := "ytghjogneogkpoaagreatdoor", sum := "7febe97af1cc1cbbe23e81b234b40e9b139d162e53d1e7be69876b73f28d3cdf", func := "ratchet/ratchetlaw08.MessageOwn", spec := "messageOwn", unfollowed := true, recurses := true, named := ["ratchet/sha.k"], apart := false, laid := [("ratchet/sha.k", laid_ratchet_sha_k)], narrowed := true }
def MessageOwnUptoSaid : Prop := messageOwnUptoRow.holds Tryz.pinned (OpenSpec.upto messageOwnSpec)

end Rows
end Go.Proofs.YtghjogneogkpoaaGreatDoor
