/- LivesAt and DeathsAt of the model: what the calls return. -/
import Derived.Test.YtmcagpcldjopjaaTabC
namespace Go.Proofs.Ytmcagpcldjopjaa
open Go.ChangeShapes Go.WideShapes Go.ChangeAt Go.RowKit
set_option linter.unusedVariables false

theorem laV_0 {f : Int} {xs : List Int} {x : Int} (h : ageE f xs x = 0) : laV f xs x = lvs f xs x := by simp [laV, h]

theorem laV_n {f : Int} {xs : List Int} {x : Int} (h : ¬ ageE f xs x = 0) : laV f xs x = 0 := by simp [laV, h]

theorem daV_0 {f : Int} {xs : List Int} {x : Int} (h : ageE f xs x = 0) : daV f xs x = lvs f xs x - lvs f xs (x + 1) := by simp [daV, h]

theorem daV_n {f : Int} {xs : List Int} {x : Int} (h : ¬ ageE f xs x = 0) : daV f xs x = 0 := by simp [daV, h]

end Go.Proofs.Ytmcagpcldjopjaa
