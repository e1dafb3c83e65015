/-
  DERIVED. GIVEN WITH THE SEED: THE CARDS: each row of YtlbacbcenejngaaGreatDoorRows.lean that lists a variable, with what it lists TIED to the program's text (the seventh form; the later family's looks); each row that meets fmt, with fmt's text TOLD by the authors' own Lean function (tested against real Go, not proved from fmt's source: count such statements apart). THE CARD IS WHAT COUNTS. Prove the row's statement (the work); the ties are given (YtlbacbcenejngaaGreatDoorTie.lean); close each card by the builder's one call (the guide's Derived/Test/ToyasCard.lean, 'card_holds'). Laid BY PROGRAM, IN A SANDBOX (cutbox-door.mjs). By AI agents, Wed Nov 11 2026. No macro, syntax, notation, axiom, sorry.
-/
import Derived.Test.YtlbacbcenejngaaGreatDoorRows
import GoSem.ClaimSeven
namespace Go.Proofs.YtlbacbcenejngaaGreatDoor
namespace Rows

/-- THE TIED CARD OF 'baileylaw.Works'. -/
def worksCard : Claim7 := { stood := { row := worksRow, standIns := [], harness := (true, "3a9377444fb1ca12ad3774baf513ceb99b3fa2ec34cb46b8b128d7f8cc7e2eee"), looks := false }, kinds := [], alts := [], laidByText := true, laidKinds := [.data], laidTests := true, laidLooks := .later }
def WorksCardSaid : Prop := Claim7.holds Tryz.pinned (.plain (OpenSpec.ofChange worksSpec)) worksCard

/-- THE TIED CARD OF 'baileykeep.Chained'. -/
def chainedCard : Claim7 := { stood := { row := chainedRow, standIns := [], harness := (true, "3a9377444fb1ca12ad3774baf513ceb99b3fa2ec34cb46b8b128d7f8cc7e2eee"), looks := false }, kinds := [], alts := [], laidByText := true, laidKinds := [.data], laidTests := true, laidLooks := .later }
def ChainedCardSaid : Prop := Claim7.holds Tryz.pinned (.plain (OpenSpec.ofChange chainedSpec)) chainedCard

/-- THE TIED CARD OF 'baileykeep.Forged'. -/
def forgedCard : Claim7 := { stood := { row := forgedRow, standIns := [], harness := (true, "3a9377444fb1ca12ad3774baf513ceb99b3fa2ec34cb46b8b128d7f8cc7e2eee"), looks := false }, kinds := [], alts := [], laidByText := true, laidKinds := [.data], laidTests := true, laidLooks := .later }
def ForgedCardSaid : Prop := Claim7.holds Tryz.pinned (.plain (OpenSpec.ofChange forgedSpec)) forgedCard

/-- THE TIED CARD OF 'baileykeep.Blind'. -/
def blindCard : Claim7 := { stood := { row := blindRow, standIns := [], harness := (true, "3a9377444fb1ca12ad3774baf513ceb99b3fa2ec34cb46b8b128d7f8cc7e2eee"), looks := false }, kinds := [], alts := [], laidByText := true, laidKinds := [.data], laidTests := true, laidLooks := .later }
def BlindCardSaid : Prop := Claim7.holds Tryz.pinned (.plain (OpenSpec.ofChange blindSpec)) blindCard

/-- THE TIED CARD OF 'baileykeep.Closed'. -/
def closedCard : Claim7 := { stood := { row := closedRow, standIns := [], harness := (true, "3a9377444fb1ca12ad3774baf513ceb99b3fa2ec34cb46b8b128d7f8cc7e2eee"), looks := false }, kinds := [], alts := [], laidByText := true, laidKinds := [.data], laidTests := true, laidLooks := .later }
def ClosedCardSaid : Prop := Claim7.holds Tryz.pinned (.plain (OpenSpec.ofChange closedSpec)) closedCard

/-- THE TIED CARD OF 'baileykeep.Fenced'. -/
def fencedCard : Claim7 := { stood := { row := fencedRow, standIns := [], harness := (true, "3a9377444fb1ca12ad3774baf513ceb99b3fa2ec34cb46b8b128d7f8cc7e2eee"), looks := false }, kinds := [], alts := [], laidByText := true, laidKinds := [.data], laidTests := true, laidLooks := .later }
def FencedCardSaid : Prop := Claim7.holds Tryz.pinned (.plain (OpenSpec.ofChange fencedSpec)) fencedCard

/-- THE SECOND FORM's CARD OF 'baileylaw.Works'. -/
def worksUptoCard : Claim7 := { stood := { row := worksUptoRow, standIns := [], harness := (true, "3a9377444fb1ca12ad3774baf513ceb99b3fa2ec34cb46b8b128d7f8cc7e2eee"), looks := false }, kinds := [], alts := [], laidByText := true, laidKinds := [.data], laidTests := true, laidLooks := .later }
def WorksUptoCardSaid : Prop := Claim7.holds Tryz.pinned (.plain (OpenSpec.upto worksSpec)) worksUptoCard

/-- THE SECOND FORM's CARD OF 'baileykeep.Chained'. -/
def chainedUptoCard : Claim7 := { stood := { row := chainedUptoRow, standIns := [], harness := (true, "3a9377444fb1ca12ad3774baf513ceb99b3fa2ec34cb46b8b128d7f8cc7e2eee"), looks := false }, kinds := [], alts := [], laidByText := true, laidKinds := [.data], laidTests := true, laidLooks := .later }
def ChainedUptoCardSaid : Prop := Claim7.holds Tryz.pinned (.plain (OpenSpec.upto chainedSpec)) chainedUptoCard

/-- THE SECOND FORM's CARD OF 'baileykeep.Forged'. -/
def forgedUptoCard : Claim7 := { stood := { row := forgedUptoRow, standIns := [], harness := (true, "3a9377444fb1ca12ad3774baf513ceb99b3fa2ec34cb46b8b128d7f8cc7e2eee"), looks := false }, kinds := [], alts := [], laidByText := true, laidKinds := [.data], laidTests := true, laidLooks := .later }
def ForgedUptoCardSaid : Prop := Claim7.holds Tryz.pinned (.plain (OpenSpec.upto forgedSpec)) forgedUptoCard

/-- THE SECOND FORM's CARD OF 'baileykeep.Blind'. -/
def blindUptoCard : Claim7 := { stood := { row := blindUptoRow, standIns := [], harness := (true, "3a9377444fb1ca12ad3774baf513ceb99b3fa2ec34cb46b8b128d7f8cc7e2eee"), looks := false }, kinds := [], alts := [], laidByText := true, laidKinds := [.data], laidTests := true, laidLooks := .later }
def BlindUptoCardSaid : Prop := Claim7.holds Tryz.pinned (.plain (OpenSpec.upto blindSpec)) blindUptoCard

/-- THE SECOND FORM's CARD OF 'baileykeep.Closed'. -/
def closedUptoCard : Claim7 := { stood := { row := closedUptoRow, standIns := [], harness := (true, "3a9377444fb1ca12ad3774baf513ceb99b3fa2ec34cb46b8b128d7f8cc7e2eee"), looks := false }, kinds := [], alts := [], laidByText := true, laidKinds := [.data], laidTests := true, laidLooks := .later }
def ClosedUptoCardSaid : Prop := Claim7.holds Tryz.pinned (.plain (OpenSpec.upto closedSpec)) closedUptoCard

/-- THE SECOND FORM's CARD OF 'baileykeep.Fenced'. -/
def fencedUptoCard : Claim7 := { stood := { row := fencedUptoRow, standIns := [], harness := (true, "3a9377444fb1ca12ad3774baf513ceb99b3fa2ec34cb46b8b128d7f8cc7e2eee"), looks := false }, kinds := [], alts := [], laidByText := true, laidKinds := [.data], laidTests := true, laidLooks := .later }
def FencedUptoCardSaid : Prop := Claim7.holds Tryz.pinned (.plain (OpenSpec.upto fencedSpec)) fencedUptoCard
end Rows
end Go.Proofs.YtlbacbcenejngaaGreatDoor
