/-
  NARROWER THAN 'FOR EVERY INPUT', by the rows' own cells (each row's printed sentence says how): Names: laid · Hashes: laid · Macs: laid · Shares: laid · Agree: laid · Boxes: laid · Sealed: laid · Delivered: laid · Spoilt: laid · Copies: laid.
  DERIVED. THE GIVEN ROWS OF THIS SEAT. 10 by the template 'for every input the law returns true; each argument reads behind the call as it read before'; 0 by the template 'total and deterministic' (their statements: YtgjdogkciklgkaaDoorTotals.lean).
  GIVEN WITH THE SEED: the statements are not yours to turn. If you find one false, say at which input.
  Laid BY PROGRAM, IN A SANDBOX (cutbox-rows.mjs): the forced cells as the released guide's own fill.sh prints them over the translation 7d66496fa787739d… (all of the seat's roots in one cut). By AI agents, Wed Nov 11 2026. No macro, syntax, notation, axiom, sorry.
-/
import Derived.Test.YtgjdogkciklgkaaDoorChecked
import GoSem.Claim
import GoSem.ClaimJoined
import GoSem.ClaimMapViews
import Derived.JoinedTies
import Derived.KernelRfl
namespace Go.Proofs.YtgjdogkciklgkaaDoor
/- THE CELL 'sum', in the pinned program and in every row, IS THE sha256 OF THE DUMP (.gsa) THAT YtgjdogkciklgkaaDoorProg.lean LOADS. Nothing in Lean hashes anything: it is a label: what it is worth is what the hold of that sum in a sandbox is worth. -/
noncomputable def Tryd.pinned : Pinned := { name := "ytgjdogkciklgkaadoor", sum := "7d66496fa787739d172332edb0ad3499d51e78574896b1d8340a5a585d8c3ba3", checked := Tryd.checked }
namespace Rows
def none {H : Type} : Left H := { results := [], args := [] }

/- WHAT THE LISTED PACKAGE-LEVEL VARIABLES READ AS WHEN THE CALL BEGINS. Each datum BY PROGRAM (the guide's laid-datum.mjs) off the statement by which the dump's own 'gosem.cut.vars' lays the variable. In a bare row this is a premise. The card (YtgjdogkciklgkaaDoorCards.lean) ties it to the program's text. -/
def laid_ratchet_ratchet_ErrLong {H : Type} : DataW H := .iface "*errors.errorString" (.ptr (.agg [.lit (.string [114, 97, 116, 99, 104, 101, 116, 58, 32, 97, 98, 111, 118, 101, 32, 97, 32, 98, 111, 117, 110, 100])]))
def laid_ratchet_ratchet_ErrKey {H : Type} : DataW H := .iface "*errors.errorString" (.ptr (.agg [.lit (.string [114, 97, 116, 99, 104, 101, 116, 58, 32, 97, 32, 107, 101, 121, 32, 116, 104, 97, 116, 32, 105, 115, 32, 110, 111, 110, 101])]))
def laid_ratchet_ratchet_ErrForm {H : Type} : DataW H := .iface "*errors.errorString" (.ptr (.agg [.lit (.string [114, 97, 116, 99, 104, 101, 116, 58, 32, 110, 111, 32, 102, 114, 97, 109, 101])]))
def laid_ratchet_ratchet_ErrAuth {H : Type} : DataW H := .iface "*errors.errorString" (.ptr (.agg [.lit (.string [114, 97, 116, 99, 104, 101, 116, 58, 32, 110, 111, 116, 32, 102, 114, 111, 109, 32, 116, 104, 101, 32, 111, 116, 104, 101, 114, 32, 111, 110, 101, 44, 32, 111, 114, 32, 110, 111, 116, 32, 102, 111, 114, 32, 116, 104, 101, 32, 102, 105, 114, 115, 116, 32, 116, 105, 109, 101])]))
def laid_ratchet_ratchet_ErrSkip {H : Type} : DataW H := .iface "*errors.errorString" (.ptr (.agg [.lit (.string [114, 97, 116, 99, 104, 101, 116, 58, 32, 116, 111, 111, 32, 109, 117, 99, 104, 32, 105, 115, 32, 115, 107, 105, 112, 112, 101, 100])]))
def laid_ratchet_ratchet_ErrNone {H : Type} : DataW H := .iface "*errors.errorString" (.ptr (.agg [.lit (.string [114, 97, 116, 99, 104, 101, 116, 58, 32, 116, 104, 101, 114, 101, 32, 105, 115, 32, 110, 111, 32, 99, 104, 97, 105, 110, 32, 121, 101, 116])]))
def laid_ratchet_ratchet_ErrFull {H : Type} : DataW H := .iface "*errors.errorString" (.ptr (.agg [.lit (.string [114, 97, 116, 99, 104, 101, 116, 58, 32, 116, 104, 101, 32, 99, 104, 97, 105, 110, 32, 105, 115, 32, 97, 116, 32, 105, 116, 115, 32, 101, 110, 100])]))
def laid_ratchet_sums_roundWords {H : Type} : DataW H := .agg [.lit (.int .u32 1116352408), .lit (.int .u32 1899447441), .lit (.int .u32 3049323471), .lit (.int .u32 3921009573), .lit (.int .u32 961987163), .lit (.int .u32 1508970993), .lit (.int .u32 2453635748), .lit (.int .u32 2870763221), .lit (.int .u32 3624381080), .lit (.int .u32 310598401), .lit (.int .u32 607225278), .lit (.int .u32 1426881987), .lit (.int .u32 1925078388), .lit (.int .u32 2162078206), .lit (.int .u32 2614888103), .lit (.int .u32 3248222580), .lit (.int .u32 3835390401), .lit (.int .u32 4022224774), .lit (.int .u32 264347078), .lit (.int .u32 604807628), .lit (.int .u32 770255983), .lit (.int .u32 1249150122), .lit (.int .u32 1555081692), .lit (.int .u32 1996064986), .lit (.int .u32 2554220882), .lit (.int .u32 2821834349), .lit (.int .u32 2952996808), .lit (.int .u32 3210313671), .lit (.int .u32 3336571891), .lit (.int .u32 3584528711), .lit (.int .u32 113926993), .lit (.int .u32 338241895), .lit (.int .u32 666307205), .lit (.int .u32 773529912), .lit (.int .u32 1294757372), .lit (.int .u32 1396182291), .lit (.int .u32 1695183700), .lit (.int .u32 1986661051), .lit (.int .u32 2177026350), .lit (.int .u32 2456956037), .lit (.int .u32 2730485921), .lit (.int .u32 2820302411), .lit (.int .u32 3259730800), .lit (.int .u32 3345764771), .lit (.int .u32 3516065817), .lit (.int .u32 3600352804), .lit (.int .u32 4094571909), .lit (.int .u32 275423344), .lit (.int .u32 430227734), .lit (.int .u32 506948616), .lit (.int .u32 659060556), .lit (.int .u32 883997877), .lit (.int .u32 958139571), .lit (.int .u32 1322822218), .lit (.int .u32 1537002063), .lit (.int .u32 1747873779), .lit (.int .u32 1955562222), .lit (.int .u32 2024104815), .lit (.int .u32 2227730452), .lit (.int .u32 2361852424), .lit (.int .u32 2428436474), .lit (.int .u32 2756734187), .lit (.int .u32 3204031479), .lit (.int .u32 3329325298)]

/-- 'ratchetlaw.Names': WHATEVER THE INPUT: true; the input reads as it did. -/
def namesSpec : ChangeSpec := { name := "names", fn := fun _ => fun
  | [] => { results := [.lit (.bool true)], args := [] }
  | _ => none }
def namesRow : OpenClaim := { program := "ytgjdogkciklgkaadoor", sum := "7d66496fa787739d172332edb0ad3499d51e78574896b1d8340a5a585d8c3ba3", func := "ratchet/ratchetlaw.Names", spec := "names", inPlace := ["internal/reflectlite.TypeOf"], unfollowed := true, recurses := true, named := ["ratchet/ratchet.ErrLong", "ratchet/ratchet.ErrKey", "ratchet/ratchet.ErrForm", "ratchet/ratchet.ErrAuth", "ratchet/ratchet.ErrSkip", "ratchet/ratchet.ErrNone", "ratchet/ratchet.ErrFull"], apart := false, laid := [("ratchet/ratchet.ErrLong", laid_ratchet_ratchet_ErrLong), ("ratchet/ratchet.ErrKey", laid_ratchet_ratchet_ErrKey), ("ratchet/ratchet.ErrForm", laid_ratchet_ratchet_ErrForm), ("ratchet/ratchet.ErrAuth", laid_ratchet_ratchet_ErrAuth), ("ratchet/ratchet.ErrSkip", laid_ratchet_ratchet_ErrSkip), ("ratchet/ratchet.ErrNone", laid_ratchet_ratchet_ErrNone), ("ratchet/ratchet.ErrFull", laid_ratchet_ratchet_ErrFull)] }
def NamesSaid : Prop := namesRow.holds Tryd.pinned (OpenSpec.ofChange namesSpec)

/-- ITS FALSE NEIGHBOUR: 'it returns false'. Refute it at one input. -/
def namesWrong : ChangeSpec := { name := "names", fn := fun _ => fun
  | [] => { results := [.lit (.bool false)], args := [] }
  | _ => none }
def NamesWrongFalsely : Prop := namesRow.holds Tryd.pinned (OpenSpec.ofChange namesWrong)

/-- 'ratchetlaw.Hashes': WHATEVER THE INPUT: true; the input reads as it did. -/
def hashesSpec : ChangeSpec := { name := "hashes", fn := fun _ => fun
  | [d] => { results := [.lit (.bool true)], args := [d] }
  | _ => none }
def hashesRow : OpenClaim := { program := "ytgjdogkciklgkaadoor", sum := "7d66496fa787739d172332edb0ad3499d51e78574896b1d8340a5a585d8c3ba3", func := "ratchet/ratchetlaw.Hashes", spec := "hashes", inPlace := ["internal/reflectlite.TypeOf", "math/bits.Add64"], unfollowed := true, recurses := true, named := ["ratchet/ratchet.ErrLong", "ratchet/sums.roundWords", "ratchet/ratchet.ErrKey", "ratchet/ratchet.ErrForm", "ratchet/ratchet.ErrAuth", "ratchet/ratchet.ErrSkip", "ratchet/ratchet.ErrNone", "ratchet/ratchet.ErrFull"], apart := false, laid := [("ratchet/sums.roundWords", laid_ratchet_sums_roundWords), ("ratchet/ratchet.ErrLong", laid_ratchet_ratchet_ErrLong), ("ratchet/ratchet.ErrKey", laid_ratchet_ratchet_ErrKey), ("ratchet/ratchet.ErrForm", laid_ratchet_ratchet_ErrForm), ("ratchet/ratchet.ErrAuth", laid_ratchet_ratchet_ErrAuth), ("ratchet/ratchet.ErrSkip", laid_ratchet_ratchet_ErrSkip), ("ratchet/ratchet.ErrNone", laid_ratchet_ratchet_ErrNone), ("ratchet/ratchet.ErrFull", laid_ratchet_ratchet_ErrFull)] }
def HashesSaid : Prop := hashesRow.holds Tryd.pinned (OpenSpec.ofChange hashesSpec)

/-- ITS FALSE NEIGHBOUR: 'it returns false'. Refute it at one input. -/
def hashesWrong : ChangeSpec := { name := "hashes", fn := fun _ => fun
  | [d] => { results := [.lit (.bool false)], args := [d] }
  | _ => none }
def HashesWrongFalsely : Prop := hashesRow.holds Tryd.pinned (OpenSpec.ofChange hashesWrong)

/-- 'ratchetlaw.Macs': WHATEVER THE INPUT: true; the input reads as it did. -/
def macsSpec : ChangeSpec := { name := "macs", fn := fun _ => fun
  | [d] => { results := [.lit (.bool true)], args := [d] }
  | _ => none }
def macsRow : OpenClaim := { program := "ytgjdogkciklgkaadoor", sum := "7d66496fa787739d172332edb0ad3499d51e78574896b1d8340a5a585d8c3ba3", func := "ratchet/ratchetlaw.Macs", spec := "macs", inPlace := ["internal/reflectlite.TypeOf", "math/bits.Add64"], unfollowed := true, recurses := true, named := ["ratchet/ratchet.ErrLong", "ratchet/sums.roundWords", "ratchet/ratchet.ErrKey", "ratchet/ratchet.ErrForm", "ratchet/ratchet.ErrAuth", "ratchet/ratchet.ErrSkip", "ratchet/ratchet.ErrNone", "ratchet/ratchet.ErrFull"], apart := false, laid := [("ratchet/sums.roundWords", laid_ratchet_sums_roundWords), ("ratchet/ratchet.ErrLong", laid_ratchet_ratchet_ErrLong), ("ratchet/ratchet.ErrKey", laid_ratchet_ratchet_ErrKey), ("ratchet/ratchet.ErrForm", laid_ratchet_ratchet_ErrForm), ("ratchet/ratchet.ErrAuth", laid_ratchet_ratchet_ErrAuth), ("ratchet/ratchet.ErrSkip", laid_ratchet_ratchet_ErrSkip), ("ratchet/ratchet.ErrNone", laid_ratchet_ratchet_ErrNone), ("ratchet/ratchet.ErrFull", laid_ratchet_ratchet_ErrFull)] }
def MacsSaid : Prop := macsRow.holds Tryd.pinned (OpenSpec.ofChange macsSpec)

/-- ITS FALSE NEIGHBOUR: 'it returns false'. Refute it at one input. -/
def macsWrong : ChangeSpec := { name := "macs", fn := fun _ => fun
  | [d] => { results := [.lit (.bool false)], args := [d] }
  | _ => none }
def MacsWrongFalsely : Prop := macsRow.holds Tryd.pinned (OpenSpec.ofChange macsWrong)

/-- 'ratchetlaw.Shares': WHATEVER THE INPUT: true; the input reads as it did. -/
def sharesSpec : ChangeSpec := { name := "shares", fn := fun _ => fun
  | [d] => { results := [.lit (.bool true)], args := [d] }
  | _ => none }
def sharesRow : OpenClaim := { program := "ytgjdogkciklgkaadoor", sum := "7d66496fa787739d172332edb0ad3499d51e78574896b1d8340a5a585d8c3ba3", func := "ratchet/ratchetlaw.Shares", spec := "shares", inPlace := ["internal/reflectlite.TypeOf", "math/bits.Add64"], unfollowed := true, recurses := true, named := ["ratchet/ratchet.ErrLong", "ratchet/sums.roundWords", "ratchet/ratchet.ErrKey", "ratchet/ratchet.ErrForm", "ratchet/ratchet.ErrAuth", "ratchet/ratchet.ErrSkip", "ratchet/ratchet.ErrNone", "ratchet/ratchet.ErrFull"], apart := false, laid := [("ratchet/sums.roundWords", laid_ratchet_sums_roundWords), ("ratchet/ratchet.ErrLong", laid_ratchet_ratchet_ErrLong), ("ratchet/ratchet.ErrKey", laid_ratchet_ratchet_ErrKey), ("ratchet/ratchet.ErrForm", laid_ratchet_ratchet_ErrForm), ("ratchet/ratchet.ErrAuth", laid_ratchet_ratchet_ErrAuth), ("ratchet/ratchet.ErrSkip", laid_ratchet_ratchet_ErrSkip), ("ratchet/ratchet.ErrNone", laid_ratchet_ratchet_ErrNone), ("ratchet/ratchet.ErrFull", laid_ratchet_ratchet_ErrFull)] }
def SharesSaid : Prop := sharesRow.holds Tryd.pinned (OpenSpec.ofChange sharesSpec)

/-- ITS FALSE NEIGHBOUR: 'it returns false'. Refute it at one input. -/
def sharesWrong : ChangeSpec := { name := "shares", fn := fun _ => fun
  | [d] => { results := [.lit (.bool false)], args := [d] }
  | _ => none }
def SharesWrongFalsely : Prop := sharesRow.holds Tryd.pinned (OpenSpec.ofChange sharesWrong)

/-- 'ratchetlaw.Agree': WHATEVER THE INPUT: true; the input reads as it did. -/
def agreeSpec : ChangeSpec := { name := "agree", fn := fun _ => fun
  | [d1, d2] => { results := [.lit (.bool true)], args := [d1, d2] }
  | _ => none }
def agreeRow : OpenClaim := { program := "ytgjdogkciklgkaadoor", sum := "7d66496fa787739d172332edb0ad3499d51e78574896b1d8340a5a585d8c3ba3", func := "ratchet/ratchetlaw.Agree", spec := "agree", inPlace := ["math/bits.Add64", "internal/reflectlite.TypeOf"], unfollowed := true, recurses := true, named := ["ratchet/ratchet.ErrKey", "ratchet/ratchet.ErrLong", "ratchet/ratchet.ErrForm", "ratchet/ratchet.ErrAuth", "ratchet/ratchet.ErrSkip", "ratchet/ratchet.ErrNone", "ratchet/ratchet.ErrFull"], apart := false, laid := [("ratchet/ratchet.ErrLong", laid_ratchet_ratchet_ErrLong), ("ratchet/ratchet.ErrKey", laid_ratchet_ratchet_ErrKey), ("ratchet/ratchet.ErrForm", laid_ratchet_ratchet_ErrForm), ("ratchet/ratchet.ErrAuth", laid_ratchet_ratchet_ErrAuth), ("ratchet/ratchet.ErrSkip", laid_ratchet_ratchet_ErrSkip), ("ratchet/ratchet.ErrNone", laid_ratchet_ratchet_ErrNone), ("ratchet/ratchet.ErrFull", laid_ratchet_ratchet_ErrFull)] }
def AgreeSaid : Prop := agreeRow.holds Tryd.pinned (OpenSpec.ofChange agreeSpec)

/-- ITS FALSE NEIGHBOUR: 'it returns false'. Refute it at one input. -/
def agreeWrong : ChangeSpec := { name := "agree", fn := fun _ => fun
  | [d1, d2] => { results := [.lit (.bool false)], args := [d1, d2] }
  | _ => none }
def AgreeWrongFalsely : Prop := agreeRow.holds Tryd.pinned (OpenSpec.ofChange agreeWrong)

/-- 'ratchetlaw.Boxes': WHATEVER THE INPUT: true; the input reads as it did. -/
def boxesSpec : ChangeSpec := { name := "boxes", fn := fun _ => fun
  | [d] => { results := [.lit (.bool true)], args := [d] }
  | _ => none }
def boxesRow : OpenClaim := { program := "ytgjdogkciklgkaadoor", sum := "7d66496fa787739d172332edb0ad3499d51e78574896b1d8340a5a585d8c3ba3", func := "ratchet/ratchetlaw.Boxes", spec := "boxes", inPlace := ["internal/reflectlite.TypeOf", "math/bits.Add64"], unfollowed := true, recurses := true, named := ["ratchet/ratchet.ErrLong", "ratchet/sums.roundWords", "ratchet/ratchet.ErrKey", "ratchet/ratchet.ErrForm", "ratchet/ratchet.ErrAuth", "ratchet/ratchet.ErrSkip", "ratchet/ratchet.ErrNone", "ratchet/ratchet.ErrFull"], apart := false, laid := [("ratchet/sums.roundWords", laid_ratchet_sums_roundWords), ("ratchet/ratchet.ErrLong", laid_ratchet_ratchet_ErrLong), ("ratchet/ratchet.ErrKey", laid_ratchet_ratchet_ErrKey), ("ratchet/ratchet.ErrForm", laid_ratchet_ratchet_ErrForm), ("ratchet/ratchet.ErrAuth", laid_ratchet_ratchet_ErrAuth), ("ratchet/ratchet.ErrSkip", laid_ratchet_ratchet_ErrSkip), ("ratchet/ratchet.ErrNone", laid_ratchet_ratchet_ErrNone), ("ratchet/ratchet.ErrFull", laid_ratchet_ratchet_ErrFull)] }
def BoxesSaid : Prop := boxesRow.holds Tryd.pinned (OpenSpec.ofChange boxesSpec)

/-- ITS FALSE NEIGHBOUR: 'it returns false'. Refute it at one input. -/
def boxesWrong : ChangeSpec := { name := "boxes", fn := fun _ => fun
  | [d] => { results := [.lit (.bool false)], args := [d] }
  | _ => none }
def BoxesWrongFalsely : Prop := boxesRow.holds Tryd.pinned (OpenSpec.ofChange boxesWrong)

/-- 'ratchetlaw.Sealed': WHATEVER THE INPUT: true; the input reads as it did. -/
def sealedSpec : ChangeSpec := { name := "sealed", fn := fun _ => fun
  | [d1, d2, d3, d4] => { results := [.lit (.bool true)], args := [d1, d2, d3, d4] }
  | _ => none }
def sealedRow : OpenClaim := { program := "ytgjdogkciklgkaadoor", sum := "7d66496fa787739d172332edb0ad3499d51e78574896b1d8340a5a585d8c3ba3", func := "ratchet/ratchetlaw.Sealed", spec := "sealed", inPlace := ["internal/reflectlite.TypeOf"], unfollowed := true, recurses := true, named := ["ratchet/ratchet.ErrLong", "ratchet/ratchet.ErrKey", "ratchet/sums.roundWords", "ratchet/ratchet.ErrForm", "ratchet/ratchet.ErrAuth", "ratchet/ratchet.ErrSkip", "ratchet/ratchet.ErrNone", "ratchet/ratchet.ErrFull"], apart := false, laid := [("ratchet/sums.roundWords", laid_ratchet_sums_roundWords), ("ratchet/ratchet.ErrLong", laid_ratchet_ratchet_ErrLong), ("ratchet/ratchet.ErrKey", laid_ratchet_ratchet_ErrKey), ("ratchet/ratchet.ErrForm", laid_ratchet_ratchet_ErrForm), ("ratchet/ratchet.ErrAuth", laid_ratchet_ratchet_ErrAuth), ("ratchet/ratchet.ErrSkip", laid_ratchet_ratchet_ErrSkip), ("ratchet/ratchet.ErrNone", laid_ratchet_ratchet_ErrNone), ("ratchet/ratchet.ErrFull", laid_ratchet_ratchet_ErrFull)] }
def SealedSaid : Prop := sealedRow.holds Tryd.pinned (OpenSpec.ofChange sealedSpec)

/-- ITS FALSE NEIGHBOUR: 'it returns false'. Refute it at one input. -/
def sealedWrong : ChangeSpec := { name := "sealed", fn := fun _ => fun
  | [d1, d2, d3, d4] => { results := [.lit (.bool false)], args := [d1, d2, d3, d4] }
  | _ => none }
def SealedWrongFalsely : Prop := sealedRow.holds Tryd.pinned (OpenSpec.ofChange sealedWrong)

/-- 'ratchetlaw.Delivered': WHATEVER THE INPUT: true; the input reads as it did. -/
def deliveredSpec : ChangeSpec := { name := "delivered", fn := fun _ => fun
  | [d1, d2, d3, d4, d5, d6, d7] => { results := [.lit (.bool true)], args := [d1, d2, d3, d4, d5, d6, d7] }
  | _ => none }
def deliveredRow : OpenClaim := { program := "ytgjdogkciklgkaadoor", sum := "7d66496fa787739d172332edb0ad3499d51e78574896b1d8340a5a585d8c3ba3", func := "ratchet/ratchetlaw.Delivered", spec := "delivered", inPlace := ["math/bits.Add64", "internal/reflectlite.TypeOf"], unfollowed := true, recurses := true, named := ["ratchet/ratchet.ErrKey", "ratchet/sums.roundWords", "ratchet/ratchet.ErrLong", "ratchet/ratchet.ErrNone", "ratchet/ratchet.ErrFull", "ratchet/ratchet.ErrAuth", "ratchet/ratchet.ErrForm", "ratchet/ratchet.ErrSkip"], apart := false, laid := [("ratchet/sums.roundWords", laid_ratchet_sums_roundWords), ("ratchet/ratchet.ErrLong", laid_ratchet_ratchet_ErrLong), ("ratchet/ratchet.ErrKey", laid_ratchet_ratchet_ErrKey), ("ratchet/ratchet.ErrForm", laid_ratchet_ratchet_ErrForm), ("ratchet/ratchet.ErrAuth", laid_ratchet_ratchet_ErrAuth), ("ratchet/ratchet.ErrSkip", laid_ratchet_ratchet_ErrSkip), ("ratchet/ratchet.ErrNone", laid_ratchet_ratchet_ErrNone), ("ratchet/ratchet.ErrFull", laid_ratchet_ratchet_ErrFull)] }
def DeliveredSaid : Prop := deliveredRow.holds Tryd.pinned (OpenSpec.ofChange deliveredSpec)

/-- ITS FALSE NEIGHBOUR: 'it returns false'. Refute it at one input. -/
def deliveredWrong : ChangeSpec := { name := "delivered", fn := fun _ => fun
  | [d1, d2, d3, d4, d5, d6, d7] => { results := [.lit (.bool false)], args := [d1, d2, d3, d4, d5, d6, d7] }
  | _ => none }
def DeliveredWrongFalsely : Prop := deliveredRow.holds Tryd.pinned (OpenSpec.ofChange deliveredWrong)

/-- 'ratchetlaw.Spoilt': WHATEVER THE INPUT: true; the input reads as it did. -/
def spoiltSpec : ChangeSpec := { name := "spoilt", fn := fun _ => fun
  | [d1, d2, d3, d4, d5, d6] => { results := [.lit (.bool true)], args := [d1, d2, d3, d4, d5, d6] }
  | _ => none }
def spoiltRow : OpenClaim := { program := "ytgjdogkciklgkaadoor", sum := "7d66496fa787739d172332edb0ad3499d51e78574896b1d8340a5a585d8c3ba3", func := "ratchet/ratchetlaw.Spoilt", spec := "spoilt", inPlace := ["math/bits.Add64"], unfollowed := true, recurses := true, named := ["ratchet/ratchet.ErrKey", "ratchet/sums.roundWords", "ratchet/ratchet.ErrLong", "ratchet/ratchet.ErrNone", "ratchet/ratchet.ErrFull", "ratchet/ratchet.ErrAuth", "ratchet/ratchet.ErrForm", "ratchet/ratchet.ErrSkip"], apart := false, laid := [("ratchet/sums.roundWords", laid_ratchet_sums_roundWords), ("ratchet/ratchet.ErrLong", laid_ratchet_ratchet_ErrLong), ("ratchet/ratchet.ErrKey", laid_ratchet_ratchet_ErrKey), ("ratchet/ratchet.ErrForm", laid_ratchet_ratchet_ErrForm), ("ratchet/ratchet.ErrAuth", laid_ratchet_ratchet_ErrAuth), ("ratchet/ratchet.ErrSkip", laid_ratchet_ratchet_ErrSkip), ("ratchet/ratchet.ErrNone", laid_ratchet_ratchet_ErrNone), ("ratchet/ratchet.ErrFull", laid_ratchet_ratchet_ErrFull)] }
def SpoiltSaid : Prop := spoiltRow.holds Tryd.pinned (OpenSpec.ofChange spoiltSpec)

/-- ITS FALSE NEIGHBOUR: 'it returns false'. Refute it at one input. -/
def spoiltWrong : ChangeSpec := { name := "spoilt", fn := fun _ => fun
  | [d1, d2, d3, d4, d5, d6] => { results := [.lit (.bool false)], args := [d1, d2, d3, d4, d5, d6] }
  | _ => none }
def SpoiltWrongFalsely : Prop := spoiltRow.holds Tryd.pinned (OpenSpec.ofChange spoiltWrong)

/-- 'ratchetlaw.Copies': WHATEVER THE INPUT: true; the input reads as it did. -/
def copiesSpec : ChangeSpec := { name := "copies", fn := fun _ => fun
  | [d1, d2, d3, d4, d5] => { results := [.lit (.bool true)], args := [d1, d2, d3, d4, d5] }
  | _ => none }
def copiesRow : OpenClaim := { program := "ytgjdogkciklgkaadoor", sum := "7d66496fa787739d172332edb0ad3499d51e78574896b1d8340a5a585d8c3ba3", func := "ratchet/ratchetlaw.Copies", spec := "copies", inPlace := ["math/bits.Add64"], unfollowed := true, recurses := true, named := ["ratchet/ratchet.ErrKey", "ratchet/sums.roundWords", "ratchet/ratchet.ErrLong", "ratchet/ratchet.ErrNone", "ratchet/ratchet.ErrFull", "ratchet/ratchet.ErrAuth", "ratchet/ratchet.ErrForm", "ratchet/ratchet.ErrSkip"], apart := false, laid := [("ratchet/sums.roundWords", laid_ratchet_sums_roundWords), ("ratchet/ratchet.ErrLong", laid_ratchet_ratchet_ErrLong), ("ratchet/ratchet.ErrKey", laid_ratchet_ratchet_ErrKey), ("ratchet/ratchet.ErrForm", laid_ratchet_ratchet_ErrForm), ("ratchet/ratchet.ErrAuth", laid_ratchet_ratchet_ErrAuth), ("ratchet/ratchet.ErrSkip", laid_ratchet_ratchet_ErrSkip), ("ratchet/ratchet.ErrNone", laid_ratchet_ratchet_ErrNone), ("ratchet/ratchet.ErrFull", laid_ratchet_ratchet_ErrFull)] }
def CopiesSaid : Prop := copiesRow.holds Tryd.pinned (OpenSpec.ofChange copiesSpec)

/-- ITS FALSE NEIGHBOUR: 'it returns false'. Refute it at one input. -/
def copiesWrong : ChangeSpec := { name := "copies", fn := fun _ => fun
  | [d1, d2, d3, d4, d5] => { results := [.lit (.bool false)], args := [d1, d2, d3, d4, d5] }
  | _ => none }
def CopiesWrongFalsely : Prop := copiesRow.holds Tryd.pinned (OpenSpec.ofChange copiesWrong)

/- THE SECOND FORM. 'bulk': how many values and letters a reading holds, each counted each time it is reached (what is shared counts as often as it is met; a slice's spare places count too). A statement '..UptoSaid' is the law's where the arguments, and the package variables that the reading takes, are together of bulk at most 1048576: NARROWER than '..Said'. Prove '..Said' where nothing that the law and all that it calls make is longer than what came in: it says more and counts as full. Else prove '..UptoSaid'. A law counts once. -/
mutual
def uptoBulk {H : Type} : DataW H → Nat
  | .lit (.string bytes) => bytes.length + 1
  | .lit _ => 1
  | .nil => 1
  | .ptr d => uptoBulk d + 1
  | .slice elems spare => uptoBulkAll elems + uptoBulkAll spare + 1
  | .agg parts => uptoBulkAll parts + 1
  | .iface _ d => uptoBulk d + 1
  | .map entries => uptoBulkEntries entries + 1
  | .held _ => 1
def uptoBulkAll {H : Type} : List (DataW H) → Nat
  | [] => 0
  | d :: r => uptoBulk d + uptoBulkAll r
def uptoBulkEntries {H : Type} : List (Lit × DataW H) → Nat
  | [] => 0
  | x :: r => uptoBulkEntry x + uptoBulkEntries r
def uptoBulkEntry {H : Type} : Lit × DataW H → Nat
  | (.string bytes, d) => bytes.length + uptoBulk d + 1
  | (_, d) => uptoBulk d + 1
 end
def uptoSmall : (H : Type) → List (DataW H) → Bool := fun _ ds => decide (uptoBulkAll ds ≤ 1048576)
def OpenSpec.upto (s : _root_.Go.ChangeSpec) : _root_.Go.OpenSpec := { _root_.Go.OpenSpec.ofChange s with cond := some uptoSmall }

/-- 'ratchetlaw.Names', WHERE WHAT IT READS IS OF BULK AT MOST 1048576: true; the input reads as it did. -/
def namesUptoRow : OpenClaim := { program := "ytgjdogkciklgkaadoor", sum := "7d66496fa787739d172332edb0ad3499d51e78574896b1d8340a5a585d8c3ba3", func := "ratchet/ratchetlaw.Names", spec := "names", inPlace := ["internal/reflectlite.TypeOf"], unfollowed := true, recurses := true, named := ["ratchet/ratchet.ErrLong", "ratchet/ratchet.ErrKey", "ratchet/ratchet.ErrForm", "ratchet/ratchet.ErrAuth", "ratchet/ratchet.ErrSkip", "ratchet/ratchet.ErrNone", "ratchet/ratchet.ErrFull"], apart := false, laid := [("ratchet/ratchet.ErrLong", laid_ratchet_ratchet_ErrLong), ("ratchet/ratchet.ErrKey", laid_ratchet_ratchet_ErrKey), ("ratchet/ratchet.ErrForm", laid_ratchet_ratchet_ErrForm), ("ratchet/ratchet.ErrAuth", laid_ratchet_ratchet_ErrAuth), ("ratchet/ratchet.ErrSkip", laid_ratchet_ratchet_ErrSkip), ("ratchet/ratchet.ErrNone", laid_ratchet_ratchet_ErrNone), ("ratchet/ratchet.ErrFull", laid_ratchet_ratchet_ErrFull)], narrowed := true }
def NamesUptoSaid : Prop := namesUptoRow.holds Tryd.pinned (OpenSpec.upto namesSpec)

/-- 'ratchetlaw.Hashes', WHERE WHAT IT READS IS OF BULK AT MOST 1048576: true; the input reads as it did. -/
def hashesUptoRow : OpenClaim := { program := "ytgjdogkciklgkaadoor", sum := "7d66496fa787739d172332edb0ad3499d51e78574896b1d8340a5a585d8c3ba3", func := "ratchet/ratchetlaw.Hashes", spec := "hashes", inPlace := ["internal/reflectlite.TypeOf", "math/bits.Add64"], unfollowed := true, recurses := true, named := ["ratchet/ratchet.ErrLong", "ratchet/sums.roundWords", "ratchet/ratchet.ErrKey", "ratchet/ratchet.ErrForm", "ratchet/ratchet.ErrAuth", "ratchet/ratchet.ErrSkip", "ratchet/ratchet.ErrNone", "ratchet/ratchet.ErrFull"], apart := false, laid := [("ratchet/sums.roundWords", laid_ratchet_sums_roundWords), ("ratchet/ratchet.ErrLong", laid_ratchet_ratchet_ErrLong), ("ratchet/ratchet.ErrKey", laid_ratchet_ratchet_ErrKey), ("ratchet/ratchet.ErrForm", laid_ratchet_ratchet_ErrForm), ("ratchet/ratchet.ErrAuth", laid_ratchet_ratchet_ErrAuth), ("ratchet/ratchet.ErrSkip", laid_ratchet_ratchet_ErrSkip), ("ratchet/ratchet.ErrNone", laid_ratchet_ratchet_ErrNone), ("ratchet/ratchet.ErrFull", laid_ratchet_ratchet_ErrFull)], narrowed := true }
def HashesUptoSaid : Prop := hashesUptoRow.holds Tryd.pinned (OpenSpec.upto hashesSpec)

/-- 'ratchetlaw.Macs', WHERE WHAT IT READS IS OF BULK AT MOST 1048576: true; the input reads as it did. -/
def macsUptoRow : OpenClaim := { program := "ytgjdogkciklgkaadoor", sum := "7d66496fa787739d172332edb0ad3499d51e78574896b1d8340a5a585d8c3ba3", func := "ratchet/ratchetlaw.Macs", spec := "macs", inPlace := ["internal/reflectlite.TypeOf", "math/bits.Add64"], unfollowed := true, recurses := true, named := ["ratchet/ratchet.ErrLong", "ratchet/sums.roundWords", "ratchet/ratchet.ErrKey", "ratchet/ratchet.ErrForm", "ratchet/ratchet.ErrAuth", "ratchet/ratchet.ErrSkip", "ratchet/ratchet.ErrNone", "ratchet/ratchet.ErrFull"], apart := false, laid := [("ratchet/sums.roundWords", laid_ratchet_sums_roundWords), ("ratchet/ratchet.ErrLong", laid_ratchet_ratchet_ErrLong), ("ratchet/ratchet.ErrKey", laid_ratchet_ratchet_ErrKey), ("ratchet/ratchet.ErrForm", laid_ratchet_ratchet_ErrForm), ("ratchet/ratchet.ErrAuth", laid_ratchet_ratchet_ErrAuth), ("ratchet/ratchet.ErrSkip", laid_ratchet_ratchet_ErrSkip), ("ratchet/ratchet.ErrNone", laid_ratchet_ratchet_ErrNone), ("ratchet/ratchet.ErrFull", laid_ratchet_ratchet_ErrFull)], narrowed := true }
def MacsUptoSaid : Prop := macsUptoRow.holds Tryd.pinned (OpenSpec.upto macsSpec)

/-- 'ratchetlaw.Shares', WHERE WHAT IT READS IS OF BULK AT MOST 1048576: true; the input reads as it did. -/
def sharesUptoRow : OpenClaim := { program := "ytgjdogkciklgkaadoor", sum := "7d66496fa787739d172332edb0ad3499d51e78574896b1d8340a5a585d8c3ba3", func := "ratchet/ratchetlaw.Shares", spec := "shares", inPlace := ["internal/reflectlite.TypeOf", "math/bits.Add64"], unfollowed := true, recurses := true, named := ["ratchet/ratchet.ErrLong", "ratchet/sums.roundWords", "ratchet/ratchet.ErrKey", "ratchet/ratchet.ErrForm", "ratchet/ratchet.ErrAuth", "ratchet/ratchet.ErrSkip", "ratchet/ratchet.ErrNone", "ratchet/ratchet.ErrFull"], apart := false, laid := [("ratchet/sums.roundWords", laid_ratchet_sums_roundWords), ("ratchet/ratchet.ErrLong", laid_ratchet_ratchet_ErrLong), ("ratchet/ratchet.ErrKey", laid_ratchet_ratchet_ErrKey), ("ratchet/ratchet.ErrForm", laid_ratchet_ratchet_ErrForm), ("ratchet/ratchet.ErrAuth", laid_ratchet_ratchet_ErrAuth), ("ratchet/ratchet.ErrSkip", laid_ratchet_ratchet_ErrSkip), ("ratchet/ratchet.ErrNone", laid_ratchet_ratchet_ErrNone), ("ratchet/ratchet.ErrFull", laid_ratchet_ratchet_ErrFull)], narrowed := true }
def SharesUptoSaid : Prop := sharesUptoRow.holds Tryd.pinned (OpenSpec.upto sharesSpec)

/-- 'ratchetlaw.Agree', WHERE WHAT IT READS IS OF BULK AT MOST 1048576: true; the input reads as it did. -/
def agreeUptoRow : OpenClaim := { program := "ytgjdogkciklgkaadoor", sum := "7d66496fa787739d172332edb0ad3499d51e78574896b1d8340a5a585d8c3ba3", func := "ratchet/ratchetlaw.Agree", spec := "agree", inPlace := ["math/bits.Add64", "internal/reflectlite.TypeOf"], unfollowed := true, recurses := true, named := ["ratchet/ratchet.ErrKey", "ratchet/ratchet.ErrLong", "ratchet/ratchet.ErrForm", "ratchet/ratchet.ErrAuth", "ratchet/ratchet.ErrSkip", "ratchet/ratchet.ErrNone", "ratchet/ratchet.ErrFull"], apart := false, laid := [("ratchet/ratchet.ErrLong", laid_ratchet_ratchet_ErrLong), ("ratchet/ratchet.ErrKey", laid_ratchet_ratchet_ErrKey), ("ratchet/ratchet.ErrForm", laid_ratchet_ratchet_ErrForm), ("ratchet/ratchet.ErrAuth", laid_ratchet_ratchet_ErrAuth), ("ratchet/ratchet.ErrSkip", laid_ratchet_ratchet_ErrSkip), ("ratchet/ratchet.ErrNone", laid_ratchet_ratchet_ErrNone), ("ratchet/ratchet.ErrFull", laid_ratchet_ratchet_ErrFull)], narrowed := true }
def AgreeUptoSaid : Prop := agreeUptoRow.holds Tryd.pinned (OpenSpec.upto agreeSpec)

/-- 'ratchetlaw.Boxes', WHERE WHAT IT READS IS OF BULK AT MOST 1048576: true; the input reads as it did. -/
def boxesUptoRow : OpenClaim := { program := "ytgjdogkciklgkaadoor", sum := "7d66496fa787739d172332edb0ad3499d51e78574896b1d8340a5a585d8c3ba3", func := "ratchet/ratchetlaw.Boxes", spec := "boxes", inPlace := ["internal/reflectlite.TypeOf", "math/bits.Add64"], unfollowed := true, recurses := true, named := ["ratchet/ratchet.ErrLong", "ratchet/sums.roundWords", "ratchet/ratchet.ErrKey", "ratchet/ratchet.ErrForm", "ratchet/ratchet.ErrAuth", "ratchet/ratchet.ErrSkip", "ratchet/ratchet.ErrNone", "ratchet/ratchet.ErrFull"], apart := false, laid := [("ratchet/sums.roundWords", laid_ratchet_sums_roundWords), ("ratchet/ratchet.ErrLong", laid_ratchet_ratchet_ErrLong), ("ratchet/ratchet.ErrKey", laid_ratchet_ratchet_ErrKey), ("ratchet/ratchet.ErrForm", laid_ratchet_ratchet_ErrForm), ("ratchet/ratchet.ErrAuth", laid_ratchet_ratchet_ErrAuth), ("ratchet/ratchet.ErrSkip", laid_ratchet_ratchet_ErrSkip), ("ratchet/ratchet.ErrNone", laid_ratchet_ratchet_ErrNone), ("ratchet/ratchet.ErrFull", laid_ratchet_ratchet_ErrFull)], narrowed := true }
def BoxesUptoSaid : Prop := boxesUptoRow.holds Tryd.pinned (OpenSpec.upto boxesSpec)

/-- 'ratchetlaw.Sealed', WHERE WHAT IT READS IS OF BULK AT MOST 1048576: true; the input reads as it did. -/
def sealedUptoRow : OpenClaim := { program := "ytgjdogkciklgkaadoor", sum := "7d66496fa787739d172332edb0ad3499d51e78574896b1d8340a5a585d8c3ba3", func := "ratchet/ratchetlaw.Sealed", spec := "sealed", inPlace := ["internal/reflectlite.TypeOf"], unfollowed := true, recurses := true, named := ["ratchet/ratchet.ErrLong", "ratchet/ratchet.ErrKey", "ratchet/sums.roundWords", "ratchet/ratchet.ErrForm", "ratchet/ratchet.ErrAuth", "ratchet/ratchet.ErrSkip", "ratchet/ratchet.ErrNone", "ratchet/ratchet.ErrFull"], apart := false, laid := [("ratchet/sums.roundWords", laid_ratchet_sums_roundWords), ("ratchet/ratchet.ErrLong", laid_ratchet_ratchet_ErrLong), ("ratchet/ratchet.ErrKey", laid_ratchet_ratchet_ErrKey), ("ratchet/ratchet.ErrForm", laid_ratchet_ratchet_ErrForm), ("ratchet/ratchet.ErrAuth", laid_ratchet_ratchet_ErrAuth), ("ratchet/ratchet.ErrSkip", laid_ratchet_ratchet_ErrSkip), ("ratchet/ratchet.ErrNone", laid_ratchet_ratchet_ErrNone), ("ratchet/ratchet.ErrFull", laid_ratchet_ratchet_ErrFull)], narrowed := true }
def SealedUptoSaid : Prop := sealedUptoRow.holds Tryd.pinned (OpenSpec.upto sealedSpec)

/-- 'ratchetlaw.Delivered', WHERE WHAT IT READS IS OF BULK AT MOST 1048576: true; the input reads as it did. -/
def deliveredUptoRow : OpenClaim := { program := "ytgjdogkciklgkaadoor", sum := "7d66496fa787739d172332edb0ad3499d51e78574896b1d8340a5a585d8c3ba3", func := "ratchet/ratchetlaw.Delivered", spec := "delivered", inPlace := ["math/bits.Add64", "internal/reflectlite.TypeOf"], unfollowed := true, recurses := true, named := ["ratchet/ratchet.ErrKey", "ratchet/sums.roundWords", "ratchet/ratchet.ErrLong", "ratchet/ratchet.ErrNone", "ratchet/ratchet.ErrFull", "ratchet/ratchet.ErrAuth", "ratchet/ratchet.ErrForm", "ratchet/ratchet.ErrSkip"], apart := false, laid := [("ratchet/sums.roundWords", laid_ratchet_sums_roundWords), ("ratchet/ratchet.ErrLong", laid_ratchet_ratchet_ErrLong), ("ratchet/ratchet.ErrKey", laid_ratchet_ratchet_ErrKey), ("ratchet/ratchet.ErrForm", laid_ratchet_ratchet_ErrForm), ("ratchet/ratchet.ErrAuth", laid_ratchet_ratchet_ErrAuth), ("ratchet/ratchet.ErrSkip", laid_ratchet_ratchet_ErrSkip), ("ratchet/ratchet.ErrNone", laid_ratchet_ratchet_ErrNone), ("ratchet/ratchet.ErrFull", laid_ratchet_ratchet_ErrFull)], narrowed := true }
def DeliveredUptoSaid : Prop := deliveredUptoRow.holds Tryd.pinned (OpenSpec.upto deliveredSpec)

/-- 'ratchetlaw.Spoilt', WHERE WHAT IT READS IS OF BULK AT MOST 1048576: true; the input reads as it did. -/
def spoiltUptoRow : OpenClaim := { program := "ytgjdogkciklgkaadoor", sum := "7d66496fa787739d172332edb0ad3499d51e78574896b1d8340a5a585d8c3ba3", func := "ratchet/ratchetlaw.Spoilt", spec := "spoilt", inPlace := ["math/bits.Add64"], unfollowed := true, recurses := true, named := ["ratchet/ratchet.ErrKey", "ratchet/sums.roundWords", "ratchet/ratchet.ErrLong", "ratchet/ratchet.ErrNone", "ratchet/ratchet.ErrFull", "ratchet/ratchet.ErrAuth", "ratchet/ratchet.ErrForm", "ratchet/ratchet.ErrSkip"], apart := false, laid := [("ratchet/sums.roundWords", laid_ratchet_sums_roundWords), ("ratchet/ratchet.ErrLong", laid_ratchet_ratchet_ErrLong), ("ratchet/ratchet.ErrKey", laid_ratchet_ratchet_ErrKey), ("ratchet/ratchet.ErrForm", laid_ratchet_ratchet_ErrForm), ("ratchet/ratchet.ErrAuth", laid_ratchet_ratchet_ErrAuth), ("ratchet/ratchet.ErrSkip", laid_ratchet_ratchet_ErrSkip), ("ratchet/ratchet.ErrNone", laid_ratchet_ratchet_ErrNone), ("ratchet/ratchet.ErrFull", laid_ratchet_ratchet_ErrFull)], narrowed := true }
def SpoiltUptoSaid : Prop := spoiltUptoRow.holds Tryd.pinned (OpenSpec.upto spoiltSpec)

/-- 'ratchetlaw.Copies', WHERE WHAT IT READS IS OF BULK AT MOST 1048576: true; the input reads as it did. -/
def copiesUptoRow : OpenClaim := { program := "ytgjdogkciklgkaadoor", sum := "7d66496fa787739d172332edb0ad3499d51e78574896b1d8340a5a585d8c3ba3", func := "ratchet/ratchetlaw.Copies", spec := "copies", inPlace := ["math/bits.Add64"], unfollowed := true, recurses := true, named := ["ratchet/ratchet.ErrKey", "ratchet/sums.roundWords", "ratchet/ratchet.ErrLong", "ratchet/ratchet.ErrNone", "ratchet/ratchet.ErrFull", "ratchet/ratchet.ErrAuth", "ratchet/ratchet.ErrForm", "ratchet/ratchet.ErrSkip"], apart := false, laid := [("ratchet/sums.roundWords", laid_ratchet_sums_roundWords), ("ratchet/ratchet.ErrLong", laid_ratchet_ratchet_ErrLong), ("ratchet/ratchet.ErrKey", laid_ratchet_ratchet_ErrKey), ("ratchet/ratchet.ErrForm", laid_ratchet_ratchet_ErrForm), ("ratchet/ratchet.ErrAuth", laid_ratchet_ratchet_ErrAuth), ("ratchet/ratchet.ErrSkip", laid_ratchet_ratchet_ErrSkip), ("ratchet/ratchet.ErrNone", laid_ratchet_ratchet_ErrNone), ("ratchet/ratchet.ErrFull", laid_ratchet_ratchet_ErrFull)], narrowed := true }
def CopiesUptoSaid : Prop := copiesUptoRow.holds Tryd.pinned (OpenSpec.upto copiesSpec)

end Rows
end Go.Proofs.YtgjdogkciklgkaaDoor
