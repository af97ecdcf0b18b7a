/-
  DERIVED. GIVEN WITH THE SEED: THE CARDS: each row of YtljpggeogiabgaaDoorRows.lean that lists a variable, with what it lists TIED to the program's text (the seventh form; the later family's looks); each row that meets fmt, with fmt's text TOLD by the authors' own Lean function (tested against real Go, not proved from fmt's source: count such statements apart). THE CARD IS WHAT COUNTS. Prove the row's statement (the work); the ties are given (YtljpggeogiabgaaDoorTie.lean); close each card by the builder's one call (the guide's Derived/Test/ToyasCard.lean, 'card_holds'). Laid BY PROGRAM, IN A SANDBOX (cutbox-door.mjs). By AI agents, Wed Nov 11 2026. No macro, syntax, notation, axiom, sorry.
-/
import Derived.Test.YtljpggeogiabgaaDoorRows
import GoSem.ClaimSeven
namespace Go.Proofs.YtljpggeogiabgaaDoor
namespace Rows

/-- THE TIED CARD OF 'laws.FnExactReadMap'. -/
def fnExactReadMapCard : Claim7 := { stood := { row := fnExactReadMapRow, standIns := [], harness := (true, "a4fed44b4c6c5cd3bf875f1812a9c74ec7534afa770fe25c468668cfb1b4e7a0"), looks := false }, kinds := [], alts := [], laidByText := true, laidKinds := [.data, .pinned], laidTests := true, laidLooks := .later }
def FnExactReadMapCardSaid : Prop := Claim7.holds Tryd.pinned (.plain (OpenSpec.ofChange fnExactReadMapSpec)) fnExactReadMapCard

/-- THE TIED CARD OF 'laws.FnExactReadLamp'. -/
def fnExactReadLampCard : Claim7 := { stood := { row := fnExactReadLampRow, standIns := [], harness := (true, "a4fed44b4c6c5cd3bf875f1812a9c74ec7534afa770fe25c468668cfb1b4e7a0"), looks := false }, kinds := [], alts := [], laidByText := true, laidKinds := [.data, .pinned], laidTests := true, laidLooks := .later }
def FnExactReadLampCardSaid : Prop := Claim7.holds Tryd.pinned (.plain (OpenSpec.ofChange fnExactReadLampSpec)) fnExactReadLampCard

/-- THE SECOND FORM's CARD OF 'laws.FnExactReadMap'. -/
def fnExactReadMapUptoCard : Claim7 := { stood := { row := fnExactReadMapUptoRow, standIns := [], harness := (true, "a4fed44b4c6c5cd3bf875f1812a9c74ec7534afa770fe25c468668cfb1b4e7a0"), looks := false }, kinds := [], alts := [], laidByText := true, laidKinds := [.data, .pinned], laidTests := true, laidLooks := .later }
def FnExactReadMapUptoCardSaid : Prop := Claim7.holds Tryd.pinned (.plain (OpenSpec.upto fnExactReadMapSpec)) fnExactReadMapUptoCard

/-- THE SECOND FORM's CARD OF 'laws.FnExactReadLamp'. -/
def fnExactReadLampUptoCard : Claim7 := { stood := { row := fnExactReadLampUptoRow, standIns := [], harness := (true, "a4fed44b4c6c5cd3bf875f1812a9c74ec7534afa770fe25c468668cfb1b4e7a0"), looks := false }, kinds := [], alts := [], laidByText := true, laidKinds := [.data, .pinned], laidTests := true, laidLooks := .later }
def FnExactReadLampUptoCardSaid : Prop := Claim7.holds Tryd.pinned (.plain (OpenSpec.upto fnExactReadLampSpec)) fnExactReadLampUptoCard
end Rows
end Go.Proofs.YtljpggeogiabgaaDoor
