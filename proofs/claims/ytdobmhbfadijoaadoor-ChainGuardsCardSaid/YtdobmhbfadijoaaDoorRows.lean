/-
  NARROWER THAN 'FOR EVERY INPUT', by the rows' own cells (each row's printed sentence says how): ChainDigits: laid · ChainWalks: laid · ChainGuards: laid · ChainBack: laid · ChainGoes: laid · ChainKnown: laid.
  DERIVED. THE GIVEN ROWS OF THIS SEAT. 6 by the template 'for every input the law returns true; each argument reads behind the call as it read before'; 0 by the template 'total and deterministic' (their statements: YtdobmhbfadijoaaDoorTotals.lean).
  GIVEN WITH THE SEED: the statements are not yours to turn. If you find one false, say at which input.
  Laid BY PROGRAM, IN A SANDBOX (cutbox-rows.mjs): the forced cells as the released guide's own fill.sh prints them over the translation 60611bc080e31f5a… (all of the seat's roots in one cut). By AI agents, Wed Nov 11 2026. No macro, syntax, notation, axiom, sorry.
-/
import Derived.Test.YtdobmhbfadijoaaDoorChecked
import GoSem.Claim
import GoSem.ClaimJoined
import GoSem.ClaimMapViews
import Derived.JoinedTies
import Derived.KernelRfl
namespace Go.Proofs.YtdobmhbfadijoaaDoor
/- THE CELL 'sum', in the pinned program and in every row, IS THE sha256 OF THE DUMP (.gsa) THAT YtdobmhbfadijoaaDoorProg.lean LOADS. Nothing in Lean hashes anything: it is a label: what it is worth is what the hold of that sum in a sandbox is worth. -/
noncomputable def Tryd.pinned : Pinned := { name := "ytdobmhbfadijoaadoor", sum := "60611bc080e31f5a46b55afe6cc4709c7e2847743c4b4672f30a958a730b883f", checked := Tryd.checked }
namespace Rows
def none {H : Type} : Left H := { results := [], args := [] }

/- WHAT THE LISTED PACKAGE-LEVEL VARIABLES READ AS WHEN THE CALL BEGINS. Each datum BY PROGRAM (the guide's laid-datum.mjs) off the statement by which the dump's own 'gosem.cut.vars' lays the variable. In a bare row this is a premise. The card (YtdobmhbfadijoaaDoorCards.lean) ties it to the program's text. -/
def laid_sextant_sha_beginning {H : Type} : DataW H := .agg [.lit (.int .u32 1779033703), .lit (.int .u32 3144134277), .lit (.int .u32 1013904242), .lit (.int .u32 2773480762), .lit (.int .u32 1359893119), .lit (.int .u32 2600822924), .lit (.int .u32 528734635), .lit (.int .u32 1541459225)]
def laid_sextant_sha_constants {H : Type} : DataW H := .agg [.lit (.int .u32 1116352408), .lit (.int .u32 1899447441), .lit (.int .u32 3049323471), .lit (.int .u32 3921009573), .lit (.int .u32 961987163), .lit (.int .u32 1508970993), .lit (.int .u32 2453635748), .lit (.int .u32 2870763221), .lit (.int .u32 3624381080), .lit (.int .u32 310598401), .lit (.int .u32 607225278), .lit (.int .u32 1426881987), .lit (.int .u32 1925078388), .lit (.int .u32 2162078206), .lit (.int .u32 2614888103), .lit (.int .u32 3248222580), .lit (.int .u32 3835390401), .lit (.int .u32 4022224774), .lit (.int .u32 264347078), .lit (.int .u32 604807628), .lit (.int .u32 770255983), .lit (.int .u32 1249150122), .lit (.int .u32 1555081692), .lit (.int .u32 1996064986), .lit (.int .u32 2554220882), .lit (.int .u32 2821834349), .lit (.int .u32 2952996808), .lit (.int .u32 3210313671), .lit (.int .u32 3336571891), .lit (.int .u32 3584528711), .lit (.int .u32 113926993), .lit (.int .u32 338241895), .lit (.int .u32 666307205), .lit (.int .u32 773529912), .lit (.int .u32 1294757372), .lit (.int .u32 1396182291), .lit (.int .u32 1695183700), .lit (.int .u32 1986661051), .lit (.int .u32 2177026350), .lit (.int .u32 2456956037), .lit (.int .u32 2730485921), .lit (.int .u32 2820302411), .lit (.int .u32 3259730800), .lit (.int .u32 3345764771), .lit (.int .u32 3516065817), .lit (.int .u32 3600352804), .lit (.int .u32 4094571909), .lit (.int .u32 275423344), .lit (.int .u32 430227734), .lit (.int .u32 506948616), .lit (.int .u32 659060556), .lit (.int .u32 883997877), .lit (.int .u32 958139571), .lit (.int .u32 1322822218), .lit (.int .u32 1537002063), .lit (.int .u32 1747873779), .lit (.int .u32 1955562222), .lit (.int .u32 2024104815), .lit (.int .u32 2227730452), .lit (.int .u32 2361852424), .lit (.int .u32 2428436474), .lit (.int .u32 2756734187), .lit (.int .u32 3204031479), .lit (.int .u32 3329325298)]

/-- 'sextantlaw12.ChainDigits': WHATEVER THE INPUT: true; the input reads as it did. -/
def chainDigitsSpec : ChangeSpec := { name := "chainDigits", fn := fun _ => fun
  | [d] => { results := [.lit (.bool true)], args := [d] }
  | _ => none }
def chainDigitsRow : OpenClaim := { program := "ytdobmhbfadijoaadoor", sum := "60611bc080e31f5a46b55afe6cc4709c7e2847743c4b4672f30a958a730b883f", func := "sextant/sextantlaw12.ChainDigits", spec := "chainDigits", inPlace := ["internal/abi.NoEscape", "internal/bytealg.MakeNoZero"], unfollowed := true, recurses := true, named := ["sextant/sha.beginning", "sextant/sha.constants"], apart := false, laid := [("sextant/sha.beginning", laid_sextant_sha_beginning), ("sextant/sha.constants", laid_sextant_sha_constants)] }
def ChainDigitsSaid : Prop := chainDigitsRow.holds Tryd.pinned (OpenSpec.ofChange chainDigitsSpec)

/-- ITS FALSE NEIGHBOUR: 'it returns false'. Refute it at one input. -/
def chainDigitsWrong : ChangeSpec := { name := "chainDigits", fn := fun _ => fun
  | [d] => { results := [.lit (.bool false)], args := [d] }
  | _ => none }
def ChainDigitsWrongFalsely : Prop := chainDigitsRow.holds Tryd.pinned (OpenSpec.ofChange chainDigitsWrong)

/-- 'sextantlaw12.ChainWalks': WHATEVER THE INPUT: true; the input reads as it did. -/
def chainWalksSpec : ChangeSpec := { name := "chainWalks", fn := fun _ => fun
  | [d1, d2] => { results := [.lit (.bool true)], args := [d1, d2] }
  | _ => none }
def chainWalksRow : OpenClaim := { program := "ytdobmhbfadijoaadoor", sum := "60611bc080e31f5a46b55afe6cc4709c7e2847743c4b4672f30a958a730b883f", func := "sextant/sextantlaw12.ChainWalks", spec := "chainWalks", inPlace := ["internal/abi.NoEscape", "internal/bytealg.MakeNoZero"], unfollowed := true, recurses := true, named := ["sextant/sha.beginning", "sextant/sha.constants"], apart := false, laid := [("sextant/sha.beginning", laid_sextant_sha_beginning), ("sextant/sha.constants", laid_sextant_sha_constants)] }
def ChainWalksSaid : Prop := chainWalksRow.holds Tryd.pinned (OpenSpec.ofChange chainWalksSpec)

/-- ITS FALSE NEIGHBOUR: 'it returns false'. Refute it at one input. -/
def chainWalksWrong : ChangeSpec := { name := "chainWalks", fn := fun _ => fun
  | [d1, d2] => { results := [.lit (.bool false)], args := [d1, d2] }
  | _ => none }
def ChainWalksWrongFalsely : Prop := chainWalksRow.holds Tryd.pinned (OpenSpec.ofChange chainWalksWrong)

/-- 'sextantlaw12.ChainGuards': WHATEVER THE INPUT: true; the input reads as it did. -/
def chainGuardsSpec : ChangeSpec := { name := "chainGuards", fn := fun _ => fun
  | [d1, d2] => { results := [.lit (.bool true)], args := [d1, d2] }
  | _ => none }
def chainGuardsRow : OpenClaim := { program := "ytdobmhbfadijoaadoor", sum := "60611bc080e31f5a46b55afe6cc4709c7e2847743c4b4672f30a958a730b883f", func := "sextant/sextantlaw12.ChainGuards", spec := "chainGuards", inPlace := ["internal/abi.NoEscape", "internal/bytealg.MakeNoZero"], unfollowed := true, recurses := true, named := ["sextant/sha.beginning", "sextant/sha.constants"], apart := false, laid := [("sextant/sha.beginning", laid_sextant_sha_beginning), ("sextant/sha.constants", laid_sextant_sha_constants)] }
def ChainGuardsSaid : Prop := chainGuardsRow.holds Tryd.pinned (OpenSpec.ofChange chainGuardsSpec)

/-- ITS FALSE NEIGHBOUR: 'it returns false'. Refute it at one input. -/
def chainGuardsWrong : ChangeSpec := { name := "chainGuards", fn := fun _ => fun
  | [d1, d2] => { results := [.lit (.bool false)], args := [d1, d2] }
  | _ => none }
def ChainGuardsWrongFalsely : Prop := chainGuardsRow.holds Tryd.pinned (OpenSpec.ofChange chainGuardsWrong)

/-- 'sextantlaw12.ChainBack': WHATEVER THE INPUT: true; the input reads as it did. -/
def chainBackSpec : ChangeSpec := { name := "chainBack", fn := fun _ => fun
  | [d] => { results := [.lit (.bool true)], args := [d] }
  | _ => none }
def chainBackRow : OpenClaim := { program := "ytdobmhbfadijoaadoor", sum := "60611bc080e31f5a46b55afe6cc4709c7e2847743c4b4672f30a958a730b883f", func := "sextant/sextantlaw12.ChainBack", spec := "chainBack", inPlace := ["internal/abi.NoEscape", "internal/bytealg.MakeNoZero"], unfollowed := true, recurses := true, named := ["sextant/sha.beginning", "sextant/sha.constants"], apart := false, laid := [("sextant/sha.beginning", laid_sextant_sha_beginning), ("sextant/sha.constants", laid_sextant_sha_constants)] }
def ChainBackSaid : Prop := chainBackRow.holds Tryd.pinned (OpenSpec.ofChange chainBackSpec)

/-- ITS FALSE NEIGHBOUR: 'it returns false'. Refute it at one input. -/
def chainBackWrong : ChangeSpec := { name := "chainBack", fn := fun _ => fun
  | [d] => { results := [.lit (.bool false)], args := [d] }
  | _ => none }
def ChainBackWrongFalsely : Prop := chainBackRow.holds Tryd.pinned (OpenSpec.ofChange chainBackWrong)

/-- 'sextantlaw12.ChainGoes': WHATEVER THE INPUT: true; the input reads as it did. -/
def chainGoesSpec : ChangeSpec := { name := "chainGoes", fn := fun _ => fun
  | [d1, d2] => { results := [.lit (.bool true)], args := [d1, d2] }
  | _ => none }
def chainGoesRow : OpenClaim := { program := "ytdobmhbfadijoaadoor", sum := "60611bc080e31f5a46b55afe6cc4709c7e2847743c4b4672f30a958a730b883f", func := "sextant/sextantlaw12.ChainGoes", spec := "chainGoes", inPlace := ["internal/abi.NoEscape", "internal/bytealg.MakeNoZero"], unfollowed := true, recurses := true, named := ["sextant/sha.beginning", "sextant/sha.constants"], apart := false, laid := [("sextant/sha.beginning", laid_sextant_sha_beginning), ("sextant/sha.constants", laid_sextant_sha_constants)] }
def ChainGoesSaid : Prop := chainGoesRow.holds Tryd.pinned (OpenSpec.ofChange chainGoesSpec)

/-- ITS FALSE NEIGHBOUR: 'it returns false'. Refute it at one input. -/
def chainGoesWrong : ChangeSpec := { name := "chainGoes", fn := fun _ => fun
  | [d1, d2] => { results := [.lit (.bool false)], args := [d1, d2] }
  | _ => none }
def ChainGoesWrongFalsely : Prop := chainGoesRow.holds Tryd.pinned (OpenSpec.ofChange chainGoesWrong)

/-- 'sextantlaw12.ChainKnown': WHATEVER THE INPUT: true; the input reads as it did. -/
def chainKnownSpec : ChangeSpec := { name := "chainKnown", fn := fun _ => fun
  | [] => { results := [.lit (.bool true)], args := [] }
  | _ => none }
def chainKnownRow : OpenClaim := { program := "ytdobmhbfadijoaadoor", sum := "60611bc080e31f5a46b55afe6cc4709c7e2847743c4b4672f30a958a730b883f", func := "sextant/sextantlaw12.ChainKnown", spec := "chainKnown", inPlace := ["internal/abi.NoEscape", "internal/bytealg.MakeNoZero"], unfollowed := true, recurses := true, named := ["sextant/sha.beginning", "sextant/sha.constants"], apart := false, laid := [("sextant/sha.beginning", laid_sextant_sha_beginning), ("sextant/sha.constants", laid_sextant_sha_constants)] }
def ChainKnownSaid : Prop := chainKnownRow.holds Tryd.pinned (OpenSpec.ofChange chainKnownSpec)

/-- ITS FALSE NEIGHBOUR: 'it returns false'. Refute it at one input. -/
def chainKnownWrong : ChangeSpec := { name := "chainKnown", fn := fun _ => fun
  | [] => { results := [.lit (.bool false)], args := [] }
  | _ => none }
def ChainKnownWrongFalsely : Prop := chainKnownRow.holds Tryd.pinned (OpenSpec.ofChange chainKnownWrong)

/- THE SECOND FORM. 'bulk': how many values and letters a reading holds, each counted each time it is reached (what is shared counts as often as it is met; a slice's spare places count too). A statement '..UptoSaid' is the law's where the arguments, and the package variables that the reading takes, are together of bulk at most 1048576: NARROWER than '..Said'. Prove '..Said' where nothing that the law and all that it calls make is longer than what came in: it says more and counts as full. Else prove '..UptoSaid'. A law counts once. -/
mutual
def uptoBulk {H : Type} : DataW H → Nat
  | .lit (.string bytes) => bytes.length + 1
  | .lit _ => 1
  | .nil => 1
  | .ptr d => uptoBulk d + 1
  | .slice elems spare => uptoBulkAll elems + uptoBulkAll spare + 1
  | .agg parts => uptoBulkAll parts + 1
  | .iface _ d => uptoBulk d + 1
  | .map entries => uptoBulkEntries entries + 1
  | .held _ => 1
def uptoBulkAll {H : Type} : List (DataW H) → Nat
  | [] => 0
  | d :: r => uptoBulk d + uptoBulkAll r
def uptoBulkEntries {H : Type} : List (Lit × DataW H) → Nat
  | [] => 0
  | x :: r => uptoBulkEntry x + uptoBulkEntries r
def uptoBulkEntry {H : Type} : Lit × DataW H → Nat
  | (.string bytes, d) => bytes.length + uptoBulk d + 1
  | (_, d) => uptoBulk d + 1
 end
def uptoSmall : (H : Type) → List (DataW H) → Bool := fun _ ds => decide (uptoBulkAll ds ≤ 1048576)
def OpenSpec.upto (s : _root_.Go.ChangeSpec) : _root_.Go.OpenSpec := { _root_.Go.OpenSpec.ofChange s with cond := some uptoSmall }

/-- 'sextantlaw12.ChainDigits', WHERE WHAT IT READS IS OF BULK AT MOST 1048576: true; the input reads as it did. -/
def chainDigitsUptoRow : OpenClaim := { program := "ytdobmhbfadijoaadoor", sum := "60611bc080e31f5a46b55afe6cc4709c7e2847743c4b4672f30a958a730b883f", func := "sextant/sextantlaw12.ChainDigits", spec := "chainDigits", inPlace := ["internal/abi.NoEscape", "internal/bytealg.MakeNoZero"], unfollowed := true, recurses := true, named := ["sextant/sha.beginning", "sextant/sha.constants"], apart := false, laid := [("sextant/sha.beginning", laid_sextant_sha_beginning), ("sextant/sha.constants", laid_sextant_sha_constants)], narrowed := true }
def ChainDigitsUptoSaid : Prop := chainDigitsUptoRow.holds Tryd.pinned (OpenSpec.upto chainDigitsSpec)

/-- 'sextantlaw12.ChainWalks', WHERE WHAT IT READS IS OF BULK AT MOST 1048576: true; the input reads as it did. -/
def chainWalksUptoRow : OpenClaim := { program := "ytdobmhbfadijoaadoor", sum := "60611bc080e31f5a46b55afe6cc4709c7e2847743c4b4672f30a958a730b883f", func := "sextant/sextantlaw12.ChainWalks", spec := "chainWalks", inPlace := ["internal/abi.NoEscape", "internal/bytealg.MakeNoZero"], unfollowed := true, recurses := true, named := ["sextant/sha.beginning", "sextant/sha.constants"], apart := false, laid := [("sextant/sha.beginning", laid_sextant_sha_beginning), ("sextant/sha.constants", laid_sextant_sha_constants)], narrowed := true }
def ChainWalksUptoSaid : Prop := chainWalksUptoRow.holds Tryd.pinned (OpenSpec.upto chainWalksSpec)

/-- 'sextantlaw12.ChainGuards', WHERE WHAT IT READS IS OF BULK AT MOST 1048576: true; the input reads as it did. -/
def chainGuardsUptoRow : OpenClaim := { program := "ytdobmhbfadijoaadoor", sum := "60611bc080e31f5a46b55afe6cc4709c7e2847743c4b4672f30a958a730b883f", func := "sextant/sextantlaw12.ChainGuards", spec := "chainGuards", inPlace := ["internal/abi.NoEscape", "internal/bytealg.MakeNoZero"], unfollowed := true, recurses := true, named := ["sextant/sha.beginning", "sextant/sha.constants"], apart := false, laid := [("sextant/sha.beginning", laid_sextant_sha_beginning), ("sextant/sha.constants", laid_sextant_sha_constants)], narrowed := true }
def ChainGuardsUptoSaid : Prop := chainGuardsUptoRow.holds Tryd.pinned (OpenSpec.upto chainGuardsSpec)

/-- 'sextantlaw12.ChainBack', WHERE WHAT IT READS IS OF BULK AT MOST 1048576: true; the input reads as it did. -/
def chainBackUptoRow : OpenClaim := { program := "ytdobmhbfadijoaadoor", sum := "60611bc080e31f5a46b55afe6cc4709c7e2847743c4b4672f30a958a730b883f", func := "sextant/sextantlaw12.ChainBack", spec := "chainBack", inPlace := ["internal/abi.NoEscape", "internal/bytealg.MakeNoZero"], unfollowed := true, recurses := true, named := ["sextant/sha.beginning", "sextant/sha.constants"], apart := false, laid := [("sextant/sha.beginning", laid_sextant_sha_beginning), ("sextant/sha.constants", laid_sextant_sha_constants)], narrowed := true }
def ChainBackUptoSaid : Prop := chainBackUptoRow.holds Tryd.pinned (OpenSpec.upto chainBackSpec)

/-- 'sextantlaw12.ChainGoes', WHERE WHAT IT READS IS OF BULK AT MOST 1048576: true; the input reads as it did. -/
def chainGoesUptoRow : OpenClaim := { program := "ytdobmhbfadijoaadoor", sum := "60611bc080e31f5a46b55afe6cc4709c7e2847743c4b4672f30a958a730b883f", func := "sextant/sextantlaw12.ChainGoes", spec := "chainGoes", inPlace := ["internal/abi.NoEscape", "internal/bytealg.MakeNoZero"], unfollowed := true, recurses := true, named := ["sextant/sha.beginning", "sextant/sha.constants"], apart := false, laid := [("sextant/sha.beginning", laid_sextant_sha_beginning), ("sextant/sha.constants", laid_sextant_sha_constants)], narrowed := true }
def ChainGoesUptoSaid : Prop := chainGoesUptoRow.holds Tryd.pinned (OpenSpec.upto chainGoesSpec)

/-- 'sextantlaw12.ChainKnown', WHERE WHAT IT READS IS OF BULK AT MOST 1048576: true; the input reads as it did. -/
def chainKnownUptoRow : OpenClaim := { program := "ytdobmhbfadijoaadoor", sum := "60611bc080e31f5a46b55afe6cc4709c7e2847743c4b4672f30a958a730b883f", func := "sextant/sextantlaw12.ChainKnown", spec := "chainKnown", inPlace := ["internal/abi.NoEscape", "internal/bytealg.MakeNoZero"], unfollowed := true, recurses := true, named := ["sextant/sha.beginning", "sextant/sha.constants"], apart := false, laid := [("sextant/sha.beginning", laid_sextant_sha_beginning), ("sextant/sha.constants", laid_sextant_sha_constants)], narrowed := true }
def ChainKnownUptoSaid : Prop := chainKnownUptoRow.holds Tryd.pinned (OpenSpec.upto chainKnownSpec)

end Rows
end Go.Proofs.YtdobmhbfadijoaaDoor
