
/-
  The walk of layer 10's lives. Conditions: the words' table reads as it is laid, the search's limit is set.
-/
import Derived.Test.YteajjlilpikdeaaGreatDoorScWriteW
import Derived.Test.YteajjlilpikdeaaGreatDoorSameT
import Derived.KernelRfl
import Derived.StillTailTactics
import Derived.BigQuiet
import Derived.Deep.QuietTactic
namespace Go.Proofs.YteajjlilpikdeaaGreatDoor
open Go.RowKit Go.Shelf

namespace Sc
def lvT : List UInt8 := [72, 105, 32, 123, 123, 32, 110, 97, 109, 101, 32, 125, 125, 33, 123, 123, 105, 102, 32, 97, 46, 98, 125, 125, 123, 120, 125, 123, 123, 101, 110, 100, 125, 125]
def lvL : List T := [⟨1, ⟨#[72, 105, 32]⟩, []⟩, ⟨2, ⟨#[]⟩, [⟨#[110, 97, 109, 101]⟩]⟩, ⟨1, ⟨#[33]⟩, []⟩, ⟨3, ⟨#[]⟩, [⟨#[97]⟩, ⟨#[98]⟩]⟩, ⟨1, ⟨#[123, 120, 125]⟩, []⟩, ⟨6, ⟨#[]⟩, []⟩]
def lvW : List UInt8 := [72, 105, 32, 123, 123, 110, 97, 109, 101, 125, 125, 33, 123, 123, 105, 102, 32, 97, 46, 98, 125, 125, 123, 120, 125, 123, 123, 101, 110, 100, 125, 125]
set_option maxRecDepth 100000 in
theorem lv1 : toksR lvT = (lvL, 0) := by kernel_rfl
theorem lv2 : writeR lvL = (lvW, 0) := by kernel_rfl
theorem lv3 : pathR [97, 46, 98] = ([⟨#[97]⟩, ⟨#[98]⟩], 0) := by kernel_rfl
theorem lv4 : pathR [105, 102] = ([], 13) := by kernel_rfl
theorem lv5 : toksR [123, 123, 32, 97] = ([], 7) := by kernel_rfl
theorem lv6 : toksR [123, 123, 97, 32, 98, 125, 125] = ([], 7) := by kernel_rfl
theorem lv7 : chkTs lvL = 0 := by kernel_rfl
end Sc
end Go.Proofs.YteajjlilpikdeaaGreatDoor
