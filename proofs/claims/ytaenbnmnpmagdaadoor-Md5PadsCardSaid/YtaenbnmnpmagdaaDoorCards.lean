/-
  DERIVED. GIVEN WITH THE SEED: THE CARDS: each row of YtaenbnmnpmagdaaDoorRows.lean that lists a variable, with what it lists TIED to the program's text (the seventh form; the later family's looks); each row that meets fmt, with fmt's text TOLD by the authors' own Lean function (tested against real Go, not proved from fmt's source: count such statements apart). THE CARD IS WHAT COUNTS. Prove the row's statement (the work); the ties are given (YtaenbnmnpmagdaaDoorTie.lean); close each card by the builder's one call (the guide's Derived/Test/ToyasCard.lean, 'card_holds'). Laid BY PROGRAM, IN A SANDBOX (cutbox-door.mjs). By AI agents, Wed Nov 11 2026. No macro, syntax, notation, axiom, sorry.
-/
import Derived.Test.YtaenbnmnpmagdaaDoorRows
import GoSem.ClaimSeven
namespace Go.Proofs.YtaenbnmnpmagdaaDoor
namespace Rows

/-- THE TIED CARD OF 'umpirelaw03.Md5Sums'. -/
def md5SumsCard : Claim7 := { stood := { row := md5SumsRow, standIns := [], harness := (true, "51c193ee6188ce0be4dfa359f7fd3808938bf300e8472949a06b996667350472"), looks := false }, kinds := [], alts := [], laidByText := true, laidKinds := [.data, .data, .data, .data, .data], laidTests := true, laidLooks := .later }
def Md5SumsCardSaid : Prop := Claim7.holds Tryd.pinned (.plain (OpenSpec.ofChange md5SumsSpec)) md5SumsCard

/-- THE TIED CARD OF 'umpirelaw03.Md5Parts'. -/
def md5PartsCard : Claim7 := { stood := { row := md5PartsRow, standIns := [], harness := (true, "51c193ee6188ce0be4dfa359f7fd3808938bf300e8472949a06b996667350472"), looks := false }, kinds := [], alts := [], laidByText := true, laidKinds := [.data, .data], laidTests := true, laidLooks := .later }
def Md5PartsCardSaid : Prop := Claim7.holds Tryd.pinned (.plain (OpenSpec.ofChange md5PartsSpec)) md5PartsCard

/-- THE TIED CARD OF 'umpirelaw03.Md5Pads'. -/
def md5PadsCard : Claim7 := { stood := { row := md5PadsRow, standIns := [], harness := (true, "51c193ee6188ce0be4dfa359f7fd3808938bf300e8472949a06b996667350472"), looks := false }, kinds := [], alts := [], laidByText := true, laidKinds := [.data, .data, .data, .data, .data], laidTests := true, laidLooks := .later }
def Md5PadsCardSaid : Prop := Claim7.holds Tryd.pinned (.plain (OpenSpec.ofChange md5PadsSpec)) md5PadsCard

/-- THE TIED CARD OF 'umpirelaw03.Md5Keeps'. -/
def md5KeepsCard : Claim7 := { stood := { row := md5KeepsRow, standIns := [], harness := (true, "51c193ee6188ce0be4dfa359f7fd3808938bf300e8472949a06b996667350472"), looks := false }, kinds := [], alts := [], laidByText := true, laidKinds := [.data, .data], laidTests := true, laidLooks := .later }
def Md5KeepsCardSaid : Prop := Claim7.holds Tryd.pinned (.plain (OpenSpec.ofChange md5KeepsSpec)) md5KeepsCard

/-- THE SECOND FORM's CARD OF 'umpirelaw03.Md5Sums'. -/
def md5SumsUptoCard : Claim7 := { stood := { row := md5SumsUptoRow, standIns := [], harness := (true, "51c193ee6188ce0be4dfa359f7fd3808938bf300e8472949a06b996667350472"), looks := false }, kinds := [], alts := [], laidByText := true, laidKinds := [.data, .data, .data, .data, .data], laidTests := true, laidLooks := .later }
def Md5SumsUptoCardSaid : Prop := Claim7.holds Tryd.pinned (.plain (OpenSpec.upto md5SumsSpec)) md5SumsUptoCard

/-- THE SECOND FORM's CARD OF 'umpirelaw03.Md5Parts'. -/
def md5PartsUptoCard : Claim7 := { stood := { row := md5PartsUptoRow, standIns := [], harness := (true, "51c193ee6188ce0be4dfa359f7fd3808938bf300e8472949a06b996667350472"), looks := false }, kinds := [], alts := [], laidByText := true, laidKinds := [.data, .data], laidTests := true, laidLooks := .later }
def Md5PartsUptoCardSaid : Prop := Claim7.holds Tryd.pinned (.plain (OpenSpec.upto md5PartsSpec)) md5PartsUptoCard

/-- THE SECOND FORM's CARD OF 'umpirelaw03.Md5Pads'. -/
def md5PadsUptoCard : Claim7 := { stood := { row := md5PadsUptoRow, standIns := [], harness := (true, "51c193ee6188ce0be4dfa359f7fd3808938bf300e8472949a06b996667350472"), looks := false }, kinds := [], alts := [], laidByText := true, laidKinds := [.data, .data, .data, .data, .data], laidTests := true, laidLooks := .later }
def Md5PadsUptoCardSaid : Prop := Claim7.holds Tryd.pinned (.plain (OpenSpec.upto md5PadsSpec)) md5PadsUptoCard

/-- THE SECOND FORM's CARD OF 'umpirelaw03.Md5Keeps'. -/
def md5KeepsUptoCard : Claim7 := { stood := { row := md5KeepsUptoRow, standIns := [], harness := (true, "51c193ee6188ce0be4dfa359f7fd3808938bf300e8472949a06b996667350472"), looks := false }, kinds := [], alts := [], laidByText := true, laidKinds := [.data, .data], laidTests := true, laidLooks := .later }
def Md5KeepsUptoCardSaid : Prop := Claim7.holds Tryd.pinned (.plain (OpenSpec.upto md5KeepsSpec)) md5KeepsUptoCard
end Rows
end Go.Proofs.YtaenbnmnpmagdaaDoor
