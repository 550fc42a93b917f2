/-
  No cell of these rows narrows 'for every input' (looked for: loops, veiled, ifaces, maps, wideKeys, modest, calm, conditions, laid).
  DERIVED. THE GIVEN ROWS OF THIS SEAT. 9 by the template 'for every input the law returns true; each argument reads behind the call as it read before'; 0 by the template 'total and deterministic' (their statements: YtokinmmnoiacdaaTotals.lean).
  GIVEN WITH THE SEED: the statements are not yours to turn. If you find one false, say at which input.
  Laid BY PROGRAM, IN A SANDBOX (cutbox-rows.mjs): the forced cells as the released guide's own fill.sh prints them over the translation e2bc86fdc75e66a6… (all of the seat's roots in one cut). By AI agents, Wed Nov 11 2026. No macro, syntax, notation, axiom, sorry.
-/
import Derived.Test.YtokinmmnoiacdaaChecked
import GoSem.Claim
import GoSem.ClaimJoined
import GoSem.ClaimMapViews
import Derived.JoinedTies
import Derived.KernelRfl
namespace Go.Proofs.Ytokinmmnoiacdaa
/- THE CELL 'sum', in the pinned program and in every row, IS THE sha256 OF THE DUMP (.gsa) THAT YtokinmmnoiacdaaProg.lean LOADS. Nothing in Lean hashes anything: it is a label: what it is worth is what the hold of that sum in a sandbox is worth. -/
noncomputable def Try.pinned : Pinned := { name := "ytokinmmnoiacdaa", sum := "e2bc86fdc75e66a6449df09e2b7fb1876c9b3faccf1a587e45fb0e787de530cd", checked := Try.checked }
namespace Rows
def none {H : Type} : Left H := { results := [], args := [] }

/-- 'fluxionlaw04.DigitsNats': WHATEVER THE INPUT: true; the input reads as it did. -/
def digitsNatsSpec : ChangeSpec := { name := "digitsNats", fn := fun _ => fun
  | [d] => { results := [.lit (.bool true)], args := [d] }
  | _ => none }
def digitsNatsRow : OpenClaim := { program := "ytokinmmnoiacdaa", sum := "e2bc86fdc75e66a6449df09e2b7fb1876c9b3faccf1a587e45fb0e787de530cd", func := "fluxion/fluxionlaw04.DigitsNats", spec := "digitsNats", inPlace := ["internal/bytealg.IndexByteString", "internal/bytealg.IndexString"], unfollowed := true, recurses := true, named := ["internal/bytealg.MaxLen"], apart := false }
def DigitsNatsSaid : Prop := digitsNatsRow.holds Try.pinned (OpenSpec.ofChange digitsNatsSpec)

/-- ITS FALSE NEIGHBOUR: 'it returns false'. Refute it at one input. -/
def digitsNatsWrong : ChangeSpec := { name := "digitsNats", fn := fun _ => fun
  | [d] => { results := [.lit (.bool false)], args := [d] }
  | _ => none }
def DigitsNatsWrongFalsely : Prop := digitsNatsRow.holds Try.pinned (OpenSpec.ofChange digitsNatsWrong)

/-- 'fluxionlaw04.DigitsReads': WHATEVER THE INPUT: true; the input reads as it did. -/
def digitsReadsSpec : ChangeSpec := { name := "digitsReads", fn := fun _ => fun
  | [d] => { results := [.lit (.bool true)], args := [d] }
  | _ => none }
def digitsReadsRow : OpenClaim := { program := "ytokinmmnoiacdaa", sum := "e2bc86fdc75e66a6449df09e2b7fb1876c9b3faccf1a587e45fb0e787de530cd", func := "fluxion/fluxionlaw04.DigitsReads", spec := "digitsReads", inPlace := ["internal/bytealg.IndexByteString", "internal/bytealg.IndexString"], unfollowed := true, recurses := true, named := ["internal/bytealg.MaxLen"], apart := false }
def DigitsReadsSaid : Prop := digitsReadsRow.holds Try.pinned (OpenSpec.ofChange digitsReadsSpec)

/-- ITS FALSE NEIGHBOUR: 'it returns false'. Refute it at one input. -/
def digitsReadsWrong : ChangeSpec := { name := "digitsReads", fn := fun _ => fun
  | [d] => { results := [.lit (.bool false)], args := [d] }
  | _ => none }
def DigitsReadsWrongFalsely : Prop := digitsReadsRow.holds Try.pinned (OpenSpec.ofChange digitsReadsWrong)

/-- 'fluxionlaw04.DigitsRats': WHATEVER THE INPUT: true; the input reads as it did. -/
def digitsRatsSpec : ChangeSpec := { name := "digitsRats", fn := fun _ => fun
  | [d] => { results := [.lit (.bool true)], args := [d] }
  | _ => none }
def digitsRatsRow : OpenClaim := { program := "ytokinmmnoiacdaa", sum := "e2bc86fdc75e66a6449df09e2b7fb1876c9b3faccf1a587e45fb0e787de530cd", func := "fluxion/fluxionlaw04.DigitsRats", spec := "digitsRats", inPlace := ["internal/bytealg.IndexByteString", "internal/bytealg.IndexString"], unfollowed := true, recurses := true, named := ["internal/bytealg.MaxLen"], apart := false }
def DigitsRatsSaid : Prop := digitsRatsRow.holds Try.pinned (OpenSpec.ofChange digitsRatsSpec)

/-- ITS FALSE NEIGHBOUR: 'it returns false'. Refute it at one input. -/
def digitsRatsWrong : ChangeSpec := { name := "digitsRats", fn := fun _ => fun
  | [d] => { results := [.lit (.bool false)], args := [d] }
  | _ => none }
def DigitsRatsWrongFalsely : Prop := digitsRatsRow.holds Try.pinned (OpenSpec.ofChange digitsRatsWrong)

/-- 'fluxionlaw04.DigitsTexts': WHATEVER THE INPUT: true; the input reads as it did. -/
def digitsTextsSpec : ChangeSpec := { name := "digitsTexts", fn := fun _ => fun
  | [d] => { results := [.lit (.bool true)], args := [d] }
  | _ => none }
def digitsTextsRow : OpenClaim := { program := "ytokinmmnoiacdaa", sum := "e2bc86fdc75e66a6449df09e2b7fb1876c9b3faccf1a587e45fb0e787de530cd", func := "fluxion/fluxionlaw04.DigitsTexts", spec := "digitsTexts", inPlace := ["internal/bytealg.IndexByteString", "internal/bytealg.IndexString"], unfollowed := true, recurses := true, named := ["internal/bytealg.MaxLen"], apart := false }
def DigitsTextsSaid : Prop := digitsTextsRow.holds Try.pinned (OpenSpec.ofChange digitsTextsSpec)

/-- ITS FALSE NEIGHBOUR: 'it returns false'. Refute it at one input. -/
def digitsTextsWrong : ChangeSpec := { name := "digitsTexts", fn := fun _ => fun
  | [d] => { results := [.lit (.bool false)], args := [d] }
  | _ => none }
def DigitsTextsWrongFalsely : Prop := digitsTextsRow.holds Try.pinned (OpenSpec.ofChange digitsTextsWrong)

/-- 'fluxionlaw04.DigitsBack': WHATEVER THE INPUT: true; the input reads as it did. -/
def digitsBackSpec : ChangeSpec := { name := "digitsBack", fn := fun _ => fun
  | [d1, d2, d3] => { results := [.lit (.bool true)], args := [d1, d2, d3] }
  | _ => none }
def digitsBackRow : OpenClaim := { program := "ytokinmmnoiacdaa", sum := "e2bc86fdc75e66a6449df09e2b7fb1876c9b3faccf1a587e45fb0e787de530cd", func := "fluxion/fluxionlaw04.DigitsBack", spec := "digitsBack", inPlace := ["internal/bytealg.IndexByteString", "internal/bytealg.IndexString"], unfollowed := true, recurses := true, named := ["internal/bytealg.MaxLen"], apart := false }
def DigitsBackSaid : Prop := digitsBackRow.holds Try.pinned (OpenSpec.ofChange digitsBackSpec)

/-- ITS FALSE NEIGHBOUR: 'it returns false'. Refute it at one input. -/
def digitsBackWrong : ChangeSpec := { name := "digitsBack", fn := fun _ => fun
  | [d1, d2, d3] => { results := [.lit (.bool false)], args := [d1, d2, d3] }
  | _ => none }
def DigitsBackWrongFalsely : Prop := digitsBackRow.holds Try.pinned (OpenSpec.ofChange digitsBackWrong)

/-- 'fluxionlaw04.DigitsUnlike': WHATEVER THE INPUT: true; the input reads as it did. -/
def digitsUnlikeSpec : ChangeSpec := { name := "digitsUnlike", fn := fun _ => fun
  | [d1, d2] => { results := [.lit (.bool true)], args := [d1, d2] }
  | _ => none }
def digitsUnlikeRow : OpenClaim := { program := "ytokinmmnoiacdaa", sum := "e2bc86fdc75e66a6449df09e2b7fb1876c9b3faccf1a587e45fb0e787de530cd", func := "fluxion/fluxionlaw04.DigitsUnlike", spec := "digitsUnlike", inPlace := ["internal/bytealg.IndexByteString", "internal/bytealg.IndexString"], unfollowed := true, recurses := true, named := ["internal/bytealg.MaxLen"], apart := false }
def DigitsUnlikeSaid : Prop := digitsUnlikeRow.holds Try.pinned (OpenSpec.ofChange digitsUnlikeSpec)

/-- ITS FALSE NEIGHBOUR: 'it returns false'. Refute it at one input. -/
def digitsUnlikeWrong : ChangeSpec := { name := "digitsUnlike", fn := fun _ => fun
  | [d1, d2] => { results := [.lit (.bool false)], args := [d1, d2] }
  | _ => none }
def DigitsUnlikeWrongFalsely : Prop := digitsUnlikeRow.holds Try.pinned (OpenSpec.ofChange digitsUnlikeWrong)

/-- 'fluxionlaw04.DigitsGrows': WHATEVER THE INPUT: true; the input reads as it did. -/
def digitsGrowsSpec : ChangeSpec := { name := "digitsGrows", fn := fun _ => fun
  | [d1, d2] => { results := [.lit (.bool true)], args := [d1, d2] }
  | _ => none }
def digitsGrowsRow : OpenClaim := { program := "ytokinmmnoiacdaa", sum := "e2bc86fdc75e66a6449df09e2b7fb1876c9b3faccf1a587e45fb0e787de530cd", func := "fluxion/fluxionlaw04.DigitsGrows", spec := "digitsGrows", inPlace := ["internal/bytealg.IndexByteString", "internal/bytealg.IndexString"], unfollowed := true, recurses := true, named := ["internal/bytealg.MaxLen"], apart := false }
def DigitsGrowsSaid : Prop := digitsGrowsRow.holds Try.pinned (OpenSpec.ofChange digitsGrowsSpec)

/-- ITS FALSE NEIGHBOUR: 'it returns false'. Refute it at one input. -/
def digitsGrowsWrong : ChangeSpec := { name := "digitsGrows", fn := fun _ => fun
  | [d1, d2] => { results := [.lit (.bool false)], args := [d1, d2] }
  | _ => none }
def DigitsGrowsWrongFalsely : Prop := digitsGrowsRow.holds Try.pinned (OpenSpec.ofChange digitsGrowsWrong)

/-- 'fluxionlaw04.DigitsOrder': WHATEVER THE INPUT: true; the input reads as it did. -/
def digitsOrderSpec : ChangeSpec := { name := "digitsOrder", fn := fun _ => fun
  | [d1, d2] => { results := [.lit (.bool true)], args := [d1, d2] }
  | _ => none }
def digitsOrderRow : OpenClaim := { program := "ytokinmmnoiacdaa", sum := "e2bc86fdc75e66a6449df09e2b7fb1876c9b3faccf1a587e45fb0e787de530cd", func := "fluxion/fluxionlaw04.DigitsOrder", spec := "digitsOrder", inPlace := ["internal/bytealg.IndexByteString", "internal/bytealg.IndexString"], unfollowed := true, recurses := true, named := ["internal/bytealg.MaxLen"], apart := false }
def DigitsOrderSaid : Prop := digitsOrderRow.holds Try.pinned (OpenSpec.ofChange digitsOrderSpec)

/-- ITS FALSE NEIGHBOUR: 'it returns false'. Refute it at one input. -/
def digitsOrderWrong : ChangeSpec := { name := "digitsOrder", fn := fun _ => fun
  | [d1, d2] => { results := [.lit (.bool false)], args := [d1, d2] }
  | _ => none }
def DigitsOrderWrongFalsely : Prop := digitsOrderRow.holds Try.pinned (OpenSpec.ofChange digitsOrderWrong)

/-- 'fluxionlaw04.DigitsMost': WHATEVER THE INPUT: true; the input reads as it did. -/
def digitsMostSpec : ChangeSpec := { name := "digitsMost", fn := fun _ => fun
  | [] => { results := [.lit (.bool true)], args := [] }
  | _ => none }
def digitsMostRow : OpenClaim := { program := "ytokinmmnoiacdaa", sum := "e2bc86fdc75e66a6449df09e2b7fb1876c9b3faccf1a587e45fb0e787de530cd", func := "fluxion/fluxionlaw04.DigitsMost", spec := "digitsMost", inPlace := ["internal/bytealg.IndexByteString", "internal/bytealg.IndexString"], unfollowed := true, recurses := true, named := ["internal/bytealg.MaxLen"], apart := false }
def DigitsMostSaid : Prop := digitsMostRow.holds Try.pinned (OpenSpec.ofChange digitsMostSpec)

/-- ITS FALSE NEIGHBOUR: 'it returns false'. Refute it at one input. -/
def digitsMostWrong : ChangeSpec := { name := "digitsMost", fn := fun _ => fun
  | [] => { results := [.lit (.bool false)], args := [] }
  | _ => none }
def DigitsMostWrongFalsely : Prop := digitsMostRow.holds Try.pinned (OpenSpec.ofChange digitsMostWrong)

/- THE SECOND FORM. 'bulk': how many values and letters a reading holds, each counted each time it is reached (what is shared counts as often as it is met; a slice's spare places count too). A statement '..UptoSaid' is the law's where the arguments, and the package variables that the reading takes, are together of bulk at most 1048576: NARROWER than '..Said'. Prove '..Said' where nothing that the law and all that it calls make is longer than what came in: it says more and counts as full. Else prove '..UptoSaid'. A law counts once. -/
mutual
def uptoBulk {H : Type} : DataW H → Nat
  | .lit (.string bytes) => bytes.length + 1
  | .lit _ => 1
  | .nil => 1
  | .ptr d => uptoBulk d + 1
  | .slice elems spare => uptoBulkAll elems + uptoBulkAll spare + 1
  | .agg parts => uptoBulkAll parts + 1
  | .iface _ d => uptoBulk d + 1
  | .map entries => uptoBulkEntries entries + 1
  | .held _ => 1
def uptoBulkAll {H : Type} : List (DataW H) → Nat
  | [] => 0
  | d :: r => uptoBulk d + uptoBulkAll r
def uptoBulkEntries {H : Type} : List (Lit × DataW H) → Nat
  | [] => 0
  | x :: r => uptoBulkEntry x + uptoBulkEntries r
def uptoBulkEntry {H : Type} : Lit × DataW H → Nat
  | (.string bytes, d) => bytes.length + uptoBulk d + 1
  | (_, d) => uptoBulk d + 1
 end
def uptoSmall : (H : Type) → List (DataW H) → Bool := fun _ ds => decide (uptoBulkAll ds ≤ 1048576)
def OpenSpec.upto (s : _root_.Go.ChangeSpec) : _root_.Go.OpenSpec := { _root_.Go.OpenSpec.ofChange s with cond := some uptoSmall }

/-- 'fluxionlaw04.DigitsNats', WHERE WHAT IT READS IS OF BULK AT MOST 1048576: true; the input reads as it did. -/
def digitsNatsUptoRow : OpenClaim := { program := "ytokinmmnoiacdaa", sum := "e2bc86fdc75e66a6449df09e2b7fb1876c9b3faccf1a587e45fb0e787de530cd", func := "fluxion/fluxionlaw04.DigitsNats", spec := "digitsNats", inPlace := ["internal/bytealg.IndexByteString", "internal/bytealg.IndexString"], unfollowed := true, recurses := true, named := ["internal/bytealg.MaxLen"], apart := false, narrowed := true }
def DigitsNatsUptoSaid : Prop := digitsNatsUptoRow.holds Try.pinned (OpenSpec.upto digitsNatsSpec)

/-- 'fluxionlaw04.DigitsReads', WHERE WHAT IT READS IS OF BULK AT MOST 1048576: true; the input reads as it did. -/
def digitsReadsUptoRow : OpenClaim := { program := "ytokinmmnoiacdaa", sum := "e2bc86fdc75e66a6449df09e2b7fb1876c9b3faccf1a587e45fb0e787de530cd", func := "fluxion/fluxionlaw04.DigitsReads", spec := "digitsReads", inPlace := ["internal/bytealg.IndexByteString", "internal/bytealg.IndexString"], unfollowed := true, recurses := true, named := ["internal/bytealg.MaxLen"], apart := false, narrowed := true }
def DigitsReadsUptoSaid : Prop := digitsReadsUptoRow.holds Try.pinned (OpenSpec.upto digitsReadsSpec)

/-- 'fluxionlaw04.DigitsRats', WHERE WHAT IT READS IS OF BULK AT MOST 1048576: true; the input reads as it did. -/
def digitsRatsUptoRow : OpenClaim := { program := "ytokinmmnoiacdaa", sum := "e2bc86fdc75e66a6449df09e2b7fb1876c9b3faccf1a587e45fb0e787de530cd", func := "fluxion/fluxionlaw04.DigitsRats", spec := "digitsRats", inPlace := ["internal/bytealg.IndexByteString", "internal/bytealg.IndexString"], unfollowed := true, recurses := true, named := ["internal/bytealg.MaxLen"], apart := false, narrowed := true }
def DigitsRatsUptoSaid : Prop := digitsRatsUptoRow.holds Try.pinned (OpenSpec.upto digitsRatsSpec)

/-- 'fluxionlaw04.DigitsTexts', WHERE WHAT IT READS IS OF BULK AT MOST 1048576: true; the input reads as it did. -/
def digitsTextsUptoRow : OpenClaim := { program := "ytokinmmnoiacdaa", sum := "e2bc86fdc75e66a6449df09e2b7fb1876c9b3faccf1a587e45fb0e787de530cd", func := "fluxion/fluxionlaw04.DigitsTexts", spec := "digitsTexts", inPlace := ["internal/bytealg.IndexByteString", "internal/bytealg.IndexString"], unfollowed := true, recurses := true, named := ["internal/bytealg.MaxLen"], apart := false, narrowed := true }
def DigitsTextsUptoSaid : Prop := digitsTextsUptoRow.holds Try.pinned (OpenSpec.upto digitsTextsSpec)

/-- 'fluxionlaw04.DigitsBack', WHERE WHAT IT READS IS OF BULK AT MOST 1048576: true; the input reads as it did. -/
def digitsBackUptoRow : OpenClaim := { program := "ytokinmmnoiacdaa", sum := "e2bc86fdc75e66a6449df09e2b7fb1876c9b3faccf1a587e45fb0e787de530cd", func := "fluxion/fluxionlaw04.DigitsBack", spec := "digitsBack", inPlace := ["internal/bytealg.IndexByteString", "internal/bytealg.IndexString"], unfollowed := true, recurses := true, named := ["internal/bytealg.MaxLen"], apart := false, narrowed := true }
def DigitsBackUptoSaid : Prop := digitsBackUptoRow.holds Try.pinned (OpenSpec.upto digitsBackSpec)

/-- 'fluxionlaw04.DigitsUnlike', WHERE WHAT IT READS IS OF BULK AT MOST 1048576: true; the input reads as it did. -/
def digitsUnlikeUptoRow : OpenClaim := { program := "ytokinmmnoiacdaa", sum := "e2bc86fdc75e66a6449df09e2b7fb1876c9b3faccf1a587e45fb0e787de530cd", func := "fluxion/fluxionlaw04.DigitsUnlike", spec := "digitsUnlike", inPlace := ["internal/bytealg.IndexByteString", "internal/bytealg.IndexString"], unfollowed := true, recurses := true, named := ["internal/bytealg.MaxLen"], apart := false, narrowed := true }
def DigitsUnlikeUptoSaid : Prop := digitsUnlikeUptoRow.holds Try.pinned (OpenSpec.upto digitsUnlikeSpec)

/-- 'fluxionlaw04.DigitsGrows', WHERE WHAT IT READS IS OF BULK AT MOST 1048576: true; the input reads as it did. -/
def digitsGrowsUptoRow : OpenClaim := { program := "ytokinmmnoiacdaa", sum := "e2bc86fdc75e66a6449df09e2b7fb1876c9b3faccf1a587e45fb0e787de530cd", func := "fluxion/fluxionlaw04.DigitsGrows", spec := "digitsGrows", inPlace := ["internal/bytealg.IndexByteString", "internal/bytealg.IndexString"], unfollowed := true, recurses := true, named := ["internal/bytealg.MaxLen"], apart := false, narrowed := true }
def DigitsGrowsUptoSaid : Prop := digitsGrowsUptoRow.holds Try.pinned (OpenSpec.upto digitsGrowsSpec)

/-- 'fluxionlaw04.DigitsOrder', WHERE WHAT IT READS IS OF BULK AT MOST 1048576: true; the input reads as it did. -/
def digitsOrderUptoRow : OpenClaim := { program := "ytokinmmnoiacdaa", sum := "e2bc86fdc75e66a6449df09e2b7fb1876c9b3faccf1a587e45fb0e787de530cd", func := "fluxion/fluxionlaw04.DigitsOrder", spec := "digitsOrder", inPlace := ["internal/bytealg.IndexByteString", "internal/bytealg.IndexString"], unfollowed := true, recurses := true, named := ["internal/bytealg.MaxLen"], apart := false, narrowed := true }
def DigitsOrderUptoSaid : Prop := digitsOrderUptoRow.holds Try.pinned (OpenSpec.upto digitsOrderSpec)

/-- 'fluxionlaw04.DigitsMost', WHERE WHAT IT READS IS OF BULK AT MOST 1048576: true; the input reads as it did. -/
def digitsMostUptoRow : OpenClaim := { program := "ytokinmmnoiacdaa", sum := "e2bc86fdc75e66a6449df09e2b7fb1876c9b3faccf1a587e45fb0e787de530cd", func := "fluxion/fluxionlaw04.DigitsMost", spec := "digitsMost", inPlace := ["internal/bytealg.IndexByteString", "internal/bytealg.IndexString"], unfollowed := true, recurses := true, named := ["internal/bytealg.MaxLen"], apart := false, narrowed := true }
def DigitsMostUptoSaid : Prop := digitsMostUptoRow.holds Try.pinned (OpenSpec.upto digitsMostSpec)

end Rows
end Go.Proofs.Ytokinmmnoiacdaa
