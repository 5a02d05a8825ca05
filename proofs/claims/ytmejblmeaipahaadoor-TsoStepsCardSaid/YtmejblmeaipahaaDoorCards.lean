/-
  DERIVED. GIVEN WITH THE SEED: THE CARDS: each row of YtmejblmeaipahaaDoorRows.lean that lists a variable, with what it lists TIED to the program's text (the seventh form; the later family's looks); each row that meets fmt, with fmt's text TOLD by the authors' own Lean function (tested against real Go, not proved from fmt's source: count such statements apart). THE CARD IS WHAT COUNTS. Prove the row's statement (the work); the ties are given (YtmejblmeaipahaaDoorTie.lean); close each card by the builder's one call (the guide's Derived/Test/ToyasCard.lean, 'card_holds'). Laid BY PROGRAM, IN A SANDBOX (cutbox-door.mjs). By AI agents, Wed Nov 11 2026. No macro, syntax, notation, axiom, sorry.
-/
import Derived.Test.YtmejblmeaipahaaDoorRows
import GoSem.ClaimSeven
namespace Go.Proofs.YtmejblmeaipahaaDoor
namespace Rows

/-- THE TIED CARD OF 'reclaimlaw19.TsoRuns'. -/
def tsoRunsCard : Claim7 := { stood := { row := tsoRunsRow, standIns := [], harness := (true, "11e728068dd18b810dd21daf72e1fa22d872a654eaa1b6d7d2baff15c28a8ead"), looks := false }, kinds := [], alts := [], laidByText := true, laidKinds := [.data], laidTests := true, laidLooks := .later }
def TsoRunsCardSaid : Prop := Claim7.holds Tryd.pinned (.plain (OpenSpec.ofChange tsoRunsSpec)) tsoRunsCard

/-- THE TIED CARD OF 'reclaimlaw19.TsoSteps'. -/
def tsoStepsCard : Claim7 := { stood := { row := tsoStepsRow, standIns := [], harness := (true, "11e728068dd18b810dd21daf72e1fa22d872a654eaa1b6d7d2baff15c28a8ead"), looks := false }, kinds := [], alts := [], laidByText := true, laidKinds := [.data], laidTests := true, laidLooks := .later }
def TsoStepsCardSaid : Prop := Claim7.holds Tryd.pinned (.plain (OpenSpec.ofChange tsoStepsSpec)) tsoStepsCard

/-- THE SECOND FORM's CARD OF 'reclaimlaw19.TsoRuns'. -/
def tsoRunsUptoCard : Claim7 := { stood := { row := tsoRunsUptoRow, standIns := [], harness := (true, "11e728068dd18b810dd21daf72e1fa22d872a654eaa1b6d7d2baff15c28a8ead"), looks := false }, kinds := [], alts := [], laidByText := true, laidKinds := [.data], laidTests := true, laidLooks := .later }
def TsoRunsUptoCardSaid : Prop := Claim7.holds Tryd.pinned (.plain (OpenSpec.upto tsoRunsSpec)) tsoRunsUptoCard

/-- THE SECOND FORM's CARD OF 'reclaimlaw19.TsoSteps'. -/
def tsoStepsUptoCard : Claim7 := { stood := { row := tsoStepsUptoRow, standIns := [], harness := (true, "11e728068dd18b810dd21daf72e1fa22d872a654eaa1b6d7d2baff15c28a8ead"), looks := false }, kinds := [], alts := [], laidByText := true, laidKinds := [.data], laidTests := true, laidLooks := .later }
def TsoStepsUptoCardSaid : Prop := Claim7.holds Tryd.pinned (.plain (OpenSpec.upto tsoStepsSpec)) tsoStepsUptoCard
end Rows
end Go.Proofs.YtmejblmeaipahaaDoor
