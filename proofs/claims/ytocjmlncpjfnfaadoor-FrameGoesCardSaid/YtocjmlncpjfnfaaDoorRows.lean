/-
  NARROWER THAN 'FOR EVERY INPUT', by the rows' own cells (each row's printed sentence says how): FrameSays: laid · FrameBack: laid · FrameGoes: laid.
  DERIVED. THE GIVEN ROWS OF THIS SEAT. 3 by the template 'for every input the law returns true; each argument reads behind the call as it read before'; 0 by the template 'total and deterministic' (their statements: YtocjmlncpjfnfaaDoorTotals.lean).
  GIVEN WITH THE SEED: the statements are not yours to turn. If you find one false, say at which input.
  Laid BY PROGRAM, IN A SANDBOX (cutbox-rows.mjs): the forced cells as the released guide's own fill.sh prints them over the translation 8b30144bade324cf… (all of the seat's roots in one cut). By AI agents, Wed Nov 11 2026. No macro, syntax, notation, axiom, sorry.
-/
import Derived.Test.YtocjmlncpjfnfaaDoorChecked
import GoSem.Claim
import GoSem.ClaimJoined
import GoSem.ClaimMapViews
import Derived.JoinedTies
import Derived.KernelRfl
namespace Go.Proofs.YtocjmlncpjfnfaaDoor
/- THE CELL 'sum', in the pinned program and in every row, IS THE sha256 OF THE DUMP (.gsa) THAT YtocjmlncpjfnfaaDoorProg.lean LOADS. Nothing in Lean hashes anything: it is a label: what it is worth is what the hold of that sum in a sandbox is worth. -/
noncomputable def Tryd.pinned : Pinned := { name := "ytocjmlncpjfnfaadoor", sum := "8b30144bade324cff89a09ae97329b2c20fcf8e6309769533aa7bae992e347f7", checked := Tryd.checked }
namespace Rows
def none {H : Type} : Left H := { results := [], args := [] }

/- WHAT THE LISTED PACKAGE-LEVEL VARIABLES READ AS WHEN THE CALL BEGINS. Each datum BY PROGRAM (the guide's laid-datum.mjs) off the statement by which the dump's own 'gosem.cut.vars' lays the variable. In a bare row this is a premise. The card (YtocjmlncpjfnfaaDoorCards.lean) ties it to the program's text. -/
def laid_courier_api_ErrOff {H : Type} : DataW H := .iface "*errors.errorString" (.ptr (.agg [.lit (.string [116, 104, 101, 114, 101, 32, 105, 115, 32, 110, 111, 32, 112, 111, 119, 101, 114])]))
def laid_courier_api_ErrRange {H : Type} : DataW H := .iface "*errors.errorString" (.ptr (.agg [.lit (.string [97, 32, 110, 117, 109, 98, 101, 114, 32, 111, 117, 116, 32, 111, 102, 32, 105, 116, 115, 32, 114, 97, 110, 103, 101])]))
def laid_courier_api_ErrShort {H : Type} : DataW H := .iface "*errors.errorString" (.ptr (.agg [.lit (.string [98, 121, 116, 101, 115, 32, 116, 104, 97, 116, 32, 101, 110, 100, 32, 116, 111, 111, 32, 101, 97, 114, 108, 121])]))
def laid_courier_api_ErrTrail {H : Type} : DataW H := .iface "*errors.errorString" (.ptr (.agg [.lit (.string [98, 121, 116, 101, 115, 32, 98, 101, 104, 105, 110, 100, 32, 116, 104, 101, 32, 101, 110, 100])]))
def laid_courier_api_ErrForm {H : Type} : DataW H := .iface "*errors.errorString" (.ptr (.agg [.lit (.string [110, 111, 116, 32, 97, 115, 32, 105, 116, 32, 115, 104, 111, 117, 108, 100, 32, 98, 101])]))
def laid_courier_api_ErrPanic {H : Type} : DataW H := .iface "*errors.errorString" (.ptr (.agg [.lit (.string [115, 111, 109, 101, 116, 104, 105, 110, 103, 32, 119, 101, 110, 116, 32, 119, 114, 111, 110, 103])]))
def laid_courier_api_ErrFull {H : Type} : DataW H := .iface "*errors.errorString" (.ptr (.agg [.lit (.string [116, 104, 101, 114, 101, 32, 105, 115, 32, 110, 111, 32, 114, 111, 111, 109])]))
def laid_courier_api_ErrStore {H : Type} : DataW H := .iface "*errors.errorString" (.ptr (.agg [.lit (.string [97, 32, 115, 116, 111, 114, 101, 32, 116, 104, 97, 116, 32, 99, 97, 110, 39, 116, 32, 98, 101])]))
def laid_courier_api_ErrTag {H : Type} : DataW H := .iface "*errors.errorString" (.ptr (.agg [.lit (.string [110, 111, 116, 32, 115, 101, 97, 108, 101, 100, 32, 98, 121, 32, 116, 104, 97, 116, 32, 107, 101, 121])]))
def laid_courier_api_ErrGap {H : Type} : DataW H := .iface "*errors.errorString" (.ptr (.agg [.lit (.string [116, 111, 111, 32, 109, 97, 110, 121, 32, 97, 114, 101, 32, 109, 105, 115, 115, 105, 110, 103])]))
def laid_courier_api_ErrOld {H : Type} : DataW H := .iface "*errors.errorString" (.ptr (.agg [.lit (.string [116, 104, 97, 116, 32, 119, 97, 115, 32, 116, 104, 101, 114, 101, 32, 97, 108, 114, 101, 97, 100, 121])]))
def laid_courier_api_ErrKey {H : Type} : DataW H := .iface "*errors.errorString" (.ptr (.agg [.lit (.string [110, 111, 32, 107, 101, 121, 32, 121, 101, 116])]))
def laid_courier_api_ErrRoot {H : Type} : DataW H := .iface "*errors.errorString" (.ptr (.agg [.lit (.string [97, 110, 111, 116, 104, 101, 114, 32, 114, 111, 111, 116])]))
def laid_courier_api_ErrNone {H : Type} : DataW H := .iface "*errors.errorString" (.ptr (.agg [.lit (.string [116, 104, 101, 114, 101, 32, 105, 115, 32, 110, 111, 110, 101])]))
def laid_courier_api_ErrOpen {H : Type} : DataW H := .iface "*errors.errorString" (.ptr (.agg [.lit (.string [105, 116, 32, 105, 115, 32, 116, 104, 101, 114, 101, 32, 97, 108, 114, 101, 97, 100, 121])]))
def laid_courier_api_ErrDigest {H : Type} : DataW H := .iface "*errors.errorString" (.ptr (.agg [.lit (.string [97, 110, 111, 116, 104, 101, 114, 32, 100, 105, 103, 101, 115, 116])]))
def laid_courier_api_ErrState {H : Type} : DataW H := .iface "*errors.errorString" (.ptr (.agg [.lit (.string [110, 111, 116, 32, 110, 111, 119])]))
def laid_courier_api_ErrLimit {H : Type} : DataW H := .iface "*errors.errorString" (.ptr (.agg [.lit (.string [109, 111, 114, 101, 32, 116, 104, 97, 110, 32, 109, 97, 121, 32, 98, 101])]))
def laid_courier_api_ErrClosed {H : Type} : DataW H := .iface "*errors.errorString" (.ptr (.agg [.lit (.string [99, 108, 111, 115, 101, 100])]))
def laid_courier_sha_rounds {H : Type} : DataW H := .agg [.lit (.int .u32 1116352408), .lit (.int .u32 1899447441), .lit (.int .u32 3049323471), .lit (.int .u32 3921009573), .lit (.int .u32 961987163), .lit (.int .u32 1508970993), .lit (.int .u32 2453635748), .lit (.int .u32 2870763221), .lit (.int .u32 3624381080), .lit (.int .u32 310598401), .lit (.int .u32 607225278), .lit (.int .u32 1426881987), .lit (.int .u32 1925078388), .lit (.int .u32 2162078206), .lit (.int .u32 2614888103), .lit (.int .u32 3248222580), .lit (.int .u32 3835390401), .lit (.int .u32 4022224774), .lit (.int .u32 264347078), .lit (.int .u32 604807628), .lit (.int .u32 770255983), .lit (.int .u32 1249150122), .lit (.int .u32 1555081692), .lit (.int .u32 1996064986), .lit (.int .u32 2554220882), .lit (.int .u32 2821834349), .lit (.int .u32 2952996808), .lit (.int .u32 3210313671), .lit (.int .u32 3336571891), .lit (.int .u32 3584528711), .lit (.int .u32 113926993), .lit (.int .u32 338241895), .lit (.int .u32 666307205), .lit (.int .u32 773529912), .lit (.int .u32 1294757372), .lit (.int .u32 1396182291), .lit (.int .u32 1695183700), .lit (.int .u32 1986661051), .lit (.int .u32 2177026350), .lit (.int .u32 2456956037), .lit (.int .u32 2730485921), .lit (.int .u32 2820302411), .lit (.int .u32 3259730800), .lit (.int .u32 3345764771), .lit (.int .u32 3516065817), .lit (.int .u32 3600352804), .lit (.int .u32 4094571909), .lit (.int .u32 275423344), .lit (.int .u32 430227734), .lit (.int .u32 506948616), .lit (.int .u32 659060556), .lit (.int .u32 883997877), .lit (.int .u32 958139571), .lit (.int .u32 1322822218), .lit (.int .u32 1537002063), .lit (.int .u32 1747873779), .lit (.int .u32 1955562222), .lit (.int .u32 2024104815), .lit (.int .u32 2227730452), .lit (.int .u32 2361852424), .lit (.int .u32 2428436474), .lit (.int .u32 2756734187), .lit (.int .u32 3204031479), .lit (.int .u32 3329325298)]

/-- 'courierlaw21.FrameSays': WHATEVER THE INPUT: true; the input reads as it did. -/
def frameSaysSpec : ChangeSpec := { name := "frameSays", fn := fun _ => fun
  | [d1, d2, d3, d4, d5, d6] => { results := [.lit (.bool true)], args := [d1, d2, d3, d4, d5, d6] }
  | _ => none }
def frameSaysRow : OpenClaim := { program := "ytocjmlncpjfnfaadoor", sum := "8b30144bade324cff89a09ae97329b2c20fcf8e6309769533aa7bae992e347f7", func := "courier/courierlaw21.FrameSays", spec := "frameSays", unfollowed := true, recurses := true, named := ["courier/api.ErrOff", "courier/api.ErrForm", "courier/api.ErrShort", "courier/api.ErrPanic", "courier/api.ErrRange", "courier/api.ErrTrail", "courier/api.ErrFull", "courier/api.ErrStore", "courier/api.ErrTag", "courier/api.ErrGap", "courier/api.ErrOld", "courier/api.ErrKey", "courier/api.ErrRoot", "courier/api.ErrNone", "courier/api.ErrOpen", "courier/api.ErrDigest", "courier/api.ErrState", "courier/api.ErrLimit", "courier/api.ErrClosed", "courier/sha.rounds"], apart := false, laid := [("courier/api.ErrOff", laid_courier_api_ErrOff), ("courier/api.ErrRange", laid_courier_api_ErrRange), ("courier/api.ErrShort", laid_courier_api_ErrShort), ("courier/api.ErrTrail", laid_courier_api_ErrTrail), ("courier/api.ErrForm", laid_courier_api_ErrForm), ("courier/api.ErrPanic", laid_courier_api_ErrPanic), ("courier/api.ErrFull", laid_courier_api_ErrFull), ("courier/api.ErrStore", laid_courier_api_ErrStore), ("courier/api.ErrTag", laid_courier_api_ErrTag), ("courier/api.ErrGap", laid_courier_api_ErrGap), ("courier/api.ErrOld", laid_courier_api_ErrOld), ("courier/api.ErrKey", laid_courier_api_ErrKey), ("courier/api.ErrRoot", laid_courier_api_ErrRoot), ("courier/api.ErrNone", laid_courier_api_ErrNone), ("courier/api.ErrOpen", laid_courier_api_ErrOpen), ("courier/api.ErrDigest", laid_courier_api_ErrDigest), ("courier/api.ErrState", laid_courier_api_ErrState), ("courier/api.ErrLimit", laid_courier_api_ErrLimit), ("courier/api.ErrClosed", laid_courier_api_ErrClosed), ("courier/sha.rounds", laid_courier_sha_rounds)] }
def FrameSaysSaid : Prop := frameSaysRow.holds Tryd.pinned (OpenSpec.ofChange frameSaysSpec)

/-- ITS FALSE NEIGHBOUR: 'it returns false'. Refute it at one input. -/
def frameSaysWrong : ChangeSpec := { name := "frameSays", fn := fun _ => fun
  | [d1, d2, d3, d4, d5, d6] => { results := [.lit (.bool false)], args := [d1, d2, d3, d4, d5, d6] }
  | _ => none }
def FrameSaysWrongFalsely : Prop := frameSaysRow.holds Tryd.pinned (OpenSpec.ofChange frameSaysWrong)

/-- 'courierlaw21.FrameBack': WHATEVER THE INPUT: true; the input reads as it did. -/
def frameBackSpec : ChangeSpec := { name := "frameBack", fn := fun _ => fun
  | [d1, d2, d3, d4, d5, d6, d7] => { results := [.lit (.bool true)], args := [d1, d2, d3, d4, d5, d6, d7] }
  | _ => none }
def frameBackRow : OpenClaim := { program := "ytocjmlncpjfnfaadoor", sum := "8b30144bade324cff89a09ae97329b2c20fcf8e6309769533aa7bae992e347f7", func := "courier/courierlaw21.FrameBack", spec := "frameBack", unfollowed := true, recurses := true, named := ["courier/api.ErrOff", "courier/api.ErrForm", "courier/api.ErrShort", "courier/api.ErrPanic", "courier/api.ErrRange", "courier/api.ErrTrail", "courier/api.ErrFull", "courier/api.ErrStore", "courier/api.ErrTag", "courier/api.ErrGap", "courier/api.ErrOld", "courier/api.ErrKey", "courier/api.ErrRoot", "courier/api.ErrNone", "courier/api.ErrOpen", "courier/api.ErrDigest", "courier/api.ErrState", "courier/api.ErrLimit", "courier/api.ErrClosed", "courier/sha.rounds"], apart := false, laid := [("courier/api.ErrOff", laid_courier_api_ErrOff), ("courier/api.ErrRange", laid_courier_api_ErrRange), ("courier/api.ErrShort", laid_courier_api_ErrShort), ("courier/api.ErrTrail", laid_courier_api_ErrTrail), ("courier/api.ErrForm", laid_courier_api_ErrForm), ("courier/api.ErrPanic", laid_courier_api_ErrPanic), ("courier/api.ErrFull", laid_courier_api_ErrFull), ("courier/api.ErrStore", laid_courier_api_ErrStore), ("courier/api.ErrTag", laid_courier_api_ErrTag), ("courier/api.ErrGap", laid_courier_api_ErrGap), ("courier/api.ErrOld", laid_courier_api_ErrOld), ("courier/api.ErrKey", laid_courier_api_ErrKey), ("courier/api.ErrRoot", laid_courier_api_ErrRoot), ("courier/api.ErrNone", laid_courier_api_ErrNone), ("courier/api.ErrOpen", laid_courier_api_ErrOpen), ("courier/api.ErrDigest", laid_courier_api_ErrDigest), ("courier/api.ErrState", laid_courier_api_ErrState), ("courier/api.ErrLimit", laid_courier_api_ErrLimit), ("courier/api.ErrClosed", laid_courier_api_ErrClosed), ("courier/sha.rounds", laid_courier_sha_rounds)] }
def FrameBackSaid : Prop := frameBackRow.holds Tryd.pinned (OpenSpec.ofChange frameBackSpec)

/-- ITS FALSE NEIGHBOUR: 'it returns false'. Refute it at one input. -/
def frameBackWrong : ChangeSpec := { name := "frameBack", fn := fun _ => fun
  | [d1, d2, d3, d4, d5, d6, d7] => { results := [.lit (.bool false)], args := [d1, d2, d3, d4, d5, d6, d7] }
  | _ => none }
def FrameBackWrongFalsely : Prop := frameBackRow.holds Tryd.pinned (OpenSpec.ofChange frameBackWrong)

/-- 'courierlaw21.FrameGoes': WHATEVER THE INPUT: true; the input reads as it did. -/
def frameGoesSpec : ChangeSpec := { name := "frameGoes", fn := fun _ => fun
  | [d1, d2] => { results := [.lit (.bool true)], args := [d1, d2] }
  | _ => none }
def frameGoesRow : OpenClaim := { program := "ytocjmlncpjfnfaadoor", sum := "8b30144bade324cff89a09ae97329b2c20fcf8e6309769533aa7bae992e347f7", func := "courier/courierlaw21.FrameGoes", spec := "frameGoes", unfollowed := true, recurses := true, named := ["courier/api.ErrNone", "courier/api.ErrState", "courier/api.ErrOff", "courier/api.ErrForm", "courier/api.ErrShort", "courier/api.ErrPanic", "courier/api.ErrRange", "courier/api.ErrTrail", "courier/api.ErrFull", "courier/api.ErrStore", "courier/api.ErrTag", "courier/api.ErrGap", "courier/api.ErrOld", "courier/api.ErrKey", "courier/api.ErrRoot", "courier/api.ErrOpen", "courier/api.ErrDigest", "courier/api.ErrLimit", "courier/api.ErrClosed", "courier/sha.rounds"], apart := false, laid := [("courier/api.ErrOff", laid_courier_api_ErrOff), ("courier/api.ErrRange", laid_courier_api_ErrRange), ("courier/api.ErrShort", laid_courier_api_ErrShort), ("courier/api.ErrTrail", laid_courier_api_ErrTrail), ("courier/api.ErrForm", laid_courier_api_ErrForm), ("courier/api.ErrPanic", laid_courier_api_ErrPanic), ("courier/api.ErrFull", laid_courier_api_ErrFull), ("courier/api.ErrStore", laid_courier_api_ErrStore), ("courier/api.ErrTag", laid_courier_api_ErrTag), ("courier/api.ErrGap", laid_courier_api_ErrGap), ("courier/api.ErrOld", laid_courier_api_ErrOld), ("courier/api.ErrKey", laid_courier_api_ErrKey), ("courier/api.ErrRoot", laid_courier_api_ErrRoot), ("courier/api.ErrNone", laid_courier_api_ErrNone), ("courier/api.ErrOpen", laid_courier_api_ErrOpen), ("courier/api.ErrDigest", laid_courier_api_ErrDigest), ("courier/api.ErrState", laid_courier_api_ErrState), ("courier/api.ErrLimit", laid_courier_api_ErrLimit), ("courier/api.ErrClosed", laid_courier_api_ErrClosed), ("courier/sha.rounds", laid_courier_sha_rounds)] }
def FrameGoesSaid : Prop := frameGoesRow.holds Tryd.pinned (OpenSpec.ofChange frameGoesSpec)

/-- ITS FALSE NEIGHBOUR: 'it returns false'. Refute it at one input. -/
def frameGoesWrong : ChangeSpec := { name := "frameGoes", fn := fun _ => fun
  | [d1, d2] => { results := [.lit (.bool false)], args := [d1, d2] }
  | _ => none }
def FrameGoesWrongFalsely : Prop := frameGoesRow.holds Tryd.pinned (OpenSpec.ofChange frameGoesWrong)

/- THE SECOND FORM. 'bulk': how many values and letters a reading holds, each counted each time it is reached (what is shared counts as often as it is met; a slice's spare places count too). A statement '..UptoSaid' is the law's where the arguments, and the package variables that the reading takes, are together of bulk at most 1048576: NARROWER than '..Said'. Prove '..Said' where nothing that the law and all that it calls make is longer than what came in: it says more and counts as full. Else prove '..UptoSaid'. A law counts once. -/
mutual
def uptoBulk {H : Type} : DataW H → Nat
  | .lit (.string bytes) => bytes.length + 1
  | .lit _ => 1
  | .nil => 1
  | .ptr d => uptoBulk d + 1
  | .slice elems spare => uptoBulkAll elems + uptoBulkAll spare + 1
  | .agg parts => uptoBulkAll parts + 1
  | .iface _ d => uptoBulk d + 1
  | .map entries => uptoBulkEntries entries + 1
  | .held _ => 1
def uptoBulkAll {H : Type} : List (DataW H) → Nat
  | [] => 0
  | d :: r => uptoBulk d + uptoBulkAll r
def uptoBulkEntries {H : Type} : List (Lit × DataW H) → Nat
  | [] => 0
  | x :: r => uptoBulkEntry x + uptoBulkEntries r
def uptoBulkEntry {H : Type} : Lit × DataW H → Nat
  | (.string bytes, d) => bytes.length + uptoBulk d + 1
  | (_, d) => uptoBulk d + 1
 end
def uptoSmall : (H : Type) → List (DataW H) → Bool := fun _ ds => decide (uptoBulkAll ds ≤ 1048576)
def OpenSpec.upto (s : _root_.Go.ChangeSpec) : _root_.Go.OpenSpec := { _root_.Go.OpenSpec.ofChange s with cond := some uptoSmall }

/-- 'courierlaw21.FrameSays', WHERE WHAT IT READS IS OF BULK AT MOST 1048576: true; the input reads as it did. -/
def frameSaysUptoRow : OpenClaim := { program := "ytocjmlncpjfnfaadoor", sum := "8b30144bade324cff89a09ae97329b2c20fcf8e6309769533aa7bae992e347f7", func := "courier/courierlaw21.FrameSays", spec := "frameSays", unfollowed := true, recurses := true, named := ["courier/api.ErrOff", "courier/api.ErrForm", "courier/api.ErrShort", "courier/api.ErrPanic", "courier/api.ErrRange", "courier/api.ErrTrail", "courier/api.ErrFull", "courier/api.ErrStore", "courier/api.ErrTag", "courier/api.ErrGap", "courier/api.ErrOld", "courier/api.ErrKey", "courier/api.ErrRoot", "courier/api.ErrNone", "courier/api.ErrOpen", "courier/api.ErrDigest", "courier/api.ErrState", "courier/api.ErrLimit", "courier/api.ErrClosed", "courier/sha.rounds"], apart := false, laid := [("courier/api.ErrOff", laid_courier_api_ErrOff), ("courier/api.ErrRange", laid_courier_api_ErrRange), ("courier/api.ErrShort", laid_courier_api_ErrShort), ("courier/api.ErrTrail", laid_courier_api_ErrTrail), ("courier/api.ErrForm", laid_courier_api_ErrForm), ("courier/api.ErrPanic", laid_courier_api_ErrPanic), ("courier/api.ErrFull", laid_courier_api_ErrFull), ("courier/api.ErrStore", laid_courier_api_ErrStore), ("courier/api.ErrTag", laid_courier_api_ErrTag), ("courier/api.ErrGap", laid_courier_api_ErrGap), ("courier/api.ErrOld", laid_courier_api_ErrOld), ("courier/api.ErrKey", laid_courier_api_ErrKey), ("courier/api.ErrRoot", laid_courier_api_ErrRoot), ("courier/api.ErrNone", laid_courier_api_ErrNone), ("courier/api.ErrOpen", laid_courier_api_ErrOpen), ("courier/api.ErrDigest", laid_courier_api_ErrDigest), ("courier/api.ErrState", laid_courier_api_ErrState), ("courier/api.ErrLimit", laid_courier_api_ErrLimit), ("courier/api.ErrClosed", laid_courier_api_ErrClosed), ("courier/sha.rounds", laid_courier_sha_rounds)], narrowed := true }
def FrameSaysUptoSaid : Prop := frameSaysUptoRow.holds Tryd.pinned (OpenSpec.upto frameSaysSpec)

/-- 'courierlaw21.FrameBack', WHERE WHAT IT READS IS OF BULK AT MOST 1048576: true; the input reads as it did. -/
def frameBackUptoRow : OpenClaim := { program := "ytocjmlncpjfnfaadoor", sum := "8b30144bade324cff89a09ae97329b2c20fcf8e6309769533aa7bae992e347f7", func := "courier/courierlaw21.FrameBack", spec := "frameBack", unfollowed := true, recurses := true, named := ["courier/api.ErrOff", "courier/api.ErrForm", "courier/api.ErrShort", "courier/api.ErrPanic", "courier/api.ErrRange", "courier/api.ErrTrail", "courier/api.ErrFull", "courier/api.ErrStore", "courier/api.ErrTag", "courier/api.ErrGap", "courier/api.ErrOld", "courier/api.ErrKey", "courier/api.ErrRoot", "courier/api.ErrNone", "courier/api.ErrOpen", "courier/api.ErrDigest", "courier/api.ErrState", "courier/api.ErrLimit", "courier/api.ErrClosed", "courier/sha.rounds"], apart := false, laid := [("courier/api.ErrOff", laid_courier_api_ErrOff), ("courier/api.ErrRange", laid_courier_api_ErrRange), ("courier/api.ErrShort", laid_courier_api_ErrShort), ("courier/api.ErrTrail", laid_courier_api_ErrTrail), ("courier/api.ErrForm", laid_courier_api_ErrForm), ("courier/api.ErrPanic", laid_courier_api_ErrPanic), ("courier/api.ErrFull", laid_courier_api_ErrFull), ("courier/api.ErrStore", laid_courier_api_ErrStore), ("courier/api.ErrTag", laid_courier_api_ErrTag), ("courier/api.ErrGap", laid_courier_api_ErrGap), ("courier/api.ErrOld", laid_courier_api_ErrOld), ("courier/api.ErrKey", laid_courier_api_ErrKey), ("courier/api.ErrRoot", laid_courier_api_ErrRoot), ("courier/api.ErrNone", laid_courier_api_ErrNone), ("courier/api.ErrOpen", laid_courier_api_ErrOpen), ("courier/api.ErrDigest", laid_courier_api_ErrDigest), ("courier/api.ErrState", laid_courier_api_ErrState), ("courier/api.ErrLimit", laid_courier_api_ErrLimit), ("courier/api.ErrClosed", laid_courier_api_ErrClosed), ("courier/sha.rounds", laid_courier_sha_rounds)], narrowed := true }
def FrameBackUptoSaid : Prop := frameBackUptoRow.holds Tryd.pinned (OpenSpec.upto frameBackSpec)

/-- 'courierlaw21.FrameGoes', WHERE WHAT IT READS IS OF BULK AT MOST 1048576: true; the input reads as it did. -/
def frameGoesUptoRow : OpenClaim := { program := "ytocjmlncpjfnfaadoor", sum := "8b30144bade324cff89a09ae97329b2c20fcf8e6309769533aa7bae992e347f7", func := "courier/courierlaw21.FrameGoes", spec := "frameGoes", unfollowed := true, recurses := true, named := ["courier/api.ErrNone", "courier/api.ErrState", "courier/api.ErrOff", "courier/api.ErrForm", "courier/api.ErrShort", "courier/api.ErrPanic", "courier/api.ErrRange", "courier/api.ErrTrail", "courier/api.ErrFull", "courier/api.ErrStore", "courier/api.ErrTag", "courier/api.ErrGap", "courier/api.ErrOld", "courier/api.ErrKey", "courier/api.ErrRoot", "courier/api.ErrOpen", "courier/api.ErrDigest", "courier/api.ErrLimit", "courier/api.ErrClosed", "courier/sha.rounds"], apart := false, laid := [("courier/api.ErrOff", laid_courier_api_ErrOff), ("courier/api.ErrRange", laid_courier_api_ErrRange), ("courier/api.ErrShort", laid_courier_api_ErrShort), ("courier/api.ErrTrail", laid_courier_api_ErrTrail), ("courier/api.ErrForm", laid_courier_api_ErrForm), ("courier/api.ErrPanic", laid_courier_api_ErrPanic), ("courier/api.ErrFull", laid_courier_api_ErrFull), ("courier/api.ErrStore", laid_courier_api_ErrStore), ("courier/api.ErrTag", laid_courier_api_ErrTag), ("courier/api.ErrGap", laid_courier_api_ErrGap), ("courier/api.ErrOld", laid_courier_api_ErrOld), ("courier/api.ErrKey", laid_courier_api_ErrKey), ("courier/api.ErrRoot", laid_courier_api_ErrRoot), ("courier/api.ErrNone", laid_courier_api_ErrNone), ("courier/api.ErrOpen", laid_courier_api_ErrOpen), ("courier/api.ErrDigest", laid_courier_api_ErrDigest), ("courier/api.ErrState", laid_courier_api_ErrState), ("courier/api.ErrLimit", laid_courier_api_ErrLimit), ("courier/api.ErrClosed", laid_courier_api_ErrClosed), ("courier/sha.rounds", laid_courier_sha_rounds)], narrowed := true }
def FrameGoesUptoSaid : Prop := frameGoesUptoRow.holds Tryd.pinned (OpenSpec.upto frameGoesSpec)

end Rows
end Go.Proofs.YtocjmlncpjfnfaaDoor
