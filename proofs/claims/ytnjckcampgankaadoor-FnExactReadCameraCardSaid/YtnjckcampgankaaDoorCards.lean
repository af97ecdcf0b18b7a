/-
  DERIVED. GIVEN WITH THE SEED: THE CARDS: each row of YtnjckcampgankaaDoorRows.lean that lists a variable, with what it lists TIED to the program's text (the seventh form; the later family's looks); each row that meets fmt, with fmt's text TOLD by the authors' own Lean function (tested against real Go, not proved from fmt's source: count such statements apart). THE CARD IS WHAT COUNTS. Prove the row's statement (the work); the ties are given (YtnjckcampgankaaDoorTie.lean); close each card by the builder's one call (the guide's Derived/Test/ToyasCard.lean, 'card_holds'). Laid BY PROGRAM, IN A SANDBOX (cutbox-door.mjs). By AI agents, Wed Nov 11 2026. No macro, syntax, notation, axiom, sorry.
-/
import Derived.Test.YtnjckcampgankaaDoorRows
import GoSem.ClaimSeven
namespace Go.Proofs.YtnjckcampgankaaDoor
namespace Rows

/-- THE TIED CARD OF 'laws.FnExactReadPoint'. -/
def fnExactReadPointCard : Claim7 := { stood := { row := fnExactReadPointRow, standIns := [], harness := (true, "5814b671fe21d6bf873e681f2e04aaf5b7688fa75e37e1f84abb004f4dc19b04"), looks := true }, kinds := [], alts := [], laidByText := true, laidKinds := [.data, .pinned], laidTests := true, laidLooks := .later }
def FnExactReadPointCardSaid : Prop := Claim7.holds Tryd.pinned (.plain (OpenSpec.ofChange fnExactReadPointSpec)) fnExactReadPointCard

/-- THE TIED CARD OF 'laws.FnExactReadCamera'. -/
def fnExactReadCameraCard : Claim7 := { stood := { row := fnExactReadCameraRow, standIns := [], harness := (true, "5814b671fe21d6bf873e681f2e04aaf5b7688fa75e37e1f84abb004f4dc19b04"), looks := true }, kinds := [], alts := [], laidByText := true, laidKinds := [.data, .pinned], laidTests := true, laidLooks := .later }
def FnExactReadCameraCardSaid : Prop := Claim7.holds Tryd.pinned (.plain (OpenSpec.ofChange fnExactReadCameraSpec)) fnExactReadCameraCard

/-- THE TIED CARD OF 'laws.FnExactReadLamp'. -/
def fnExactReadLampCard : Claim7 := { stood := { row := fnExactReadLampRow, standIns := [], harness := (true, "5814b671fe21d6bf873e681f2e04aaf5b7688fa75e37e1f84abb004f4dc19b04"), looks := true }, kinds := [], alts := [], laidByText := true, laidKinds := [.data, .pinned], laidTests := true, laidLooks := .later }
def FnExactReadLampCardSaid : Prop := Claim7.holds Tryd.pinned (.plain (OpenSpec.ofChange fnExactReadLampSpec)) fnExactReadLampCard

/-- THE TIED CARD OF 'laws.FnExactShadowOfPoint'. -/
def fnExactShadowOfPointCard : Claim7 := { stood := { row := fnExactShadowOfPointRow, standIns := [], harness := (true, "5814b671fe21d6bf873e681f2e04aaf5b7688fa75e37e1f84abb004f4dc19b04"), looks := true }, kinds := [], alts := [], laidByText := true, laidKinds := [.sentinel, .sentinel, .sentinel, .sentinel], laidTests := true, laidLooks := .later }
def FnExactShadowOfPointCardSaid : Prop := Claim7.holds Tryd.pinned (.plain (OpenSpec.ofChange fnExactShadowOfPointSpec)) fnExactShadowOfPointCard

/-- THE SECOND FORM's CARD OF 'laws.FnExactReadPoint'. -/
def fnExactReadPointUptoCard : Claim7 := { stood := { row := fnExactReadPointUptoRow, standIns := [], harness := (true, "5814b671fe21d6bf873e681f2e04aaf5b7688fa75e37e1f84abb004f4dc19b04"), looks := true }, kinds := [], alts := [], laidByText := true, laidKinds := [.data, .pinned], laidTests := true, laidLooks := .later }
def FnExactReadPointUptoCardSaid : Prop := Claim7.holds Tryd.pinned (.plain (OpenSpec.upto fnExactReadPointSpec)) fnExactReadPointUptoCard

/-- THE SECOND FORM's CARD OF 'laws.FnExactReadCamera'. -/
def fnExactReadCameraUptoCard : Claim7 := { stood := { row := fnExactReadCameraUptoRow, standIns := [], harness := (true, "5814b671fe21d6bf873e681f2e04aaf5b7688fa75e37e1f84abb004f4dc19b04"), looks := true }, kinds := [], alts := [], laidByText := true, laidKinds := [.data, .pinned], laidTests := true, laidLooks := .later }
def FnExactReadCameraUptoCardSaid : Prop := Claim7.holds Tryd.pinned (.plain (OpenSpec.upto fnExactReadCameraSpec)) fnExactReadCameraUptoCard

/-- THE SECOND FORM's CARD OF 'laws.FnExactReadLamp'. -/
def fnExactReadLampUptoCard : Claim7 := { stood := { row := fnExactReadLampUptoRow, standIns := [], harness := (true, "5814b671fe21d6bf873e681f2e04aaf5b7688fa75e37e1f84abb004f4dc19b04"), looks := true }, kinds := [], alts := [], laidByText := true, laidKinds := [.data, .pinned], laidTests := true, laidLooks := .later }
def FnExactReadLampUptoCardSaid : Prop := Claim7.holds Tryd.pinned (.plain (OpenSpec.upto fnExactReadLampSpec)) fnExactReadLampUptoCard

/-- THE SECOND FORM's CARD OF 'laws.FnExactShadowOfPoint'. -/
def fnExactShadowOfPointUptoCard : Claim7 := { stood := { row := fnExactShadowOfPointUptoRow, standIns := [], harness := (true, "5814b671fe21d6bf873e681f2e04aaf5b7688fa75e37e1f84abb004f4dc19b04"), looks := true }, kinds := [], alts := [], laidByText := true, laidKinds := [.sentinel, .sentinel, .sentinel, .sentinel], laidTests := true, laidLooks := .later }
def FnExactShadowOfPointUptoCardSaid : Prop := Claim7.holds Tryd.pinned (.plain (OpenSpec.upto fnExactShadowOfPointSpec)) fnExactShadowOfPointUptoCard
end Rows
end Go.Proofs.YtnjckcampgankaaDoor
