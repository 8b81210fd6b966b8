/-
  The closed facts on the head of this seat's dump that each row asks: its signs are written out once, so that the kernel need not unroll the text. Written by program (wip/tools/head.py).
-/
import Derived.Test.YtblpfjjnlfjloabRows
import Derived.JoinedOf
import Derived.KernelRfl
namespace Go.Proofs.Ytblpfjjnlfjloab
def headSigns : List Char := (
  [104, 97, 114, 110, 101, 115, 115, 32, 52, 56, 52, 99, 102, 51, 100, 56, 52, 99, 98, 101, 53, 56, 55, 97, 52, 54, 48, 101, 102, 51, 100, 51, 57, 54,
  53, 55, 101, 99, 97, 97, 51, 99, 56, 100, 50, 57, 52, 98, 48, 55, 49, 52, 99, 51, 98, 52, 55, 102, 57, 54, 56, 50, 54, 57, 54, 51, 102, 57, 99, 97,
  49, 56, 32, 99, 117, 116, 32, 97, 116, 32, 108, 111, 111, 112, 46, 101, 120, 97, 109, 112, 108, 101, 47, 103, 48, 49, 51, 48, 54, 47, 108, 97, 119,
  115, 46, 70, 110, 69, 120, 97, 99, 116, 87, 97, 121, 115, 79, 102, 83, 117, 109, 32, 108, 111, 111, 112, 46, 101, 120, 97, 109, 112, 108, 101, 47,
  103, 48, 49, 51, 48, 54, 47, 108, 97, 119, 115, 46, 70, 110, 69, 120, 97, 99, 116, 83, 117, 109, 84, 97, 98, 108, 101, 32, 108, 111, 111, 112, 46,
  101, 120, 97, 109, 112, 108, 101, 47, 103, 48, 49, 51, 48, 54, 47, 108, 97, 119, 115, 46, 70, 110, 69, 120, 97, 99, 116, 76, 105, 107, 101, 108,
  105, 101, 115, 116, 83, 117, 109, 115, 32, 108, 111, 111, 112, 46, 101, 120, 97, 109, 112, 108, 101, 47, 103, 48, 49, 51, 48, 54, 47, 108, 97, 119,
  115, 46, 70, 110, 69, 120, 97, 99, 116, 65, 118, 101, 114, 97, 103, 101, 83, 117, 109, 32, 108, 111, 111, 112, 46, 101, 120, 97, 109, 112, 108, 101,
  47, 103, 48, 49, 51, 48, 54, 47, 108, 97, 119, 115, 46, 70, 110, 69, 120, 97, 99, 116, 80, 97, 114, 116, 65, 116, 76, 101, 97, 115, 116, 32, 108,
  111, 111, 112, 46, 101, 120, 97, 109, 112, 108, 101, 47, 103, 48, 49, 51, 48, 54, 47, 108, 97, 119, 115, 46, 70, 110, 69, 120, 97, 99, 116, 87, 97,
  121, 115, 75, 101, 112, 116, 32, 108, 111, 111, 112, 46, 101, 120, 97, 109, 112, 108, 101, 47, 103, 48, 49, 51, 48, 54, 47, 108, 97, 119, 115, 46,
  70, 110, 69, 120, 97, 99, 116, 65, 118, 101, 114, 97, 103, 101, 75, 101, 112, 116, 32, 108, 111, 111, 112, 46, 101, 120, 97, 109, 112, 108, 101, 47,
  103, 48, 49, 51, 48, 54, 47, 108, 97, 119, 115, 46, 70, 110, 69, 120, 97, 99, 116, 87, 97, 121, 115, 65, 103, 97, 105, 110, 32, 108, 111, 111, 112,
  46, 101, 120, 97, 109, 112, 108, 101, 47, 103, 48, 49, 51, 48, 54, 47, 108, 97, 119, 115, 46, 70, 110, 69, 120, 97, 99, 116, 65, 118, 101, 114, 97,
  103, 101, 65, 103, 97, 105, 110] : List Nat).map Char.ofNat
def headRest : List (List Char) := (
  [[97, 116], [108, 111, 111, 112, 46, 101, 120, 97, 109, 112, 108, 101, 47, 103, 48, 49, 51, 48, 54, 47, 108, 97, 119, 115, 46, 70, 110, 69, 120, 97,
  99, 116, 87, 97, 121, 115, 79, 102, 83, 117, 109], [108, 111, 111, 112, 46, 101, 120, 97, 109, 112, 108, 101, 47, 103, 48, 49, 51, 48, 54, 47, 108,
  97, 119, 115, 46, 70, 110, 69, 120, 97, 99, 116, 83, 117, 109, 84, 97, 98, 108, 101], [108, 111, 111, 112, 46, 101, 120, 97, 109, 112, 108, 101, 47,
  103, 48, 49, 51, 48, 54, 47, 108, 97, 119, 115, 46, 70, 110, 69, 120, 97, 99, 116, 76, 105, 107, 101, 108, 105, 101, 115, 116, 83, 117, 109, 115],
  [108, 111, 111, 112, 46, 101, 120, 97, 109, 112, 108, 101, 47, 103, 48, 49, 51, 48, 54, 47, 108, 97, 119, 115, 46, 70, 110, 69, 120, 97, 99, 116,
  65, 118, 101, 114, 97, 103, 101, 83, 117, 109], [108, 111, 111, 112, 46, 101, 120, 97, 109, 112, 108, 101, 47, 103, 48, 49, 51, 48, 54, 47, 108, 97,
  119, 115, 46, 70, 110, 69, 120, 97, 99, 116, 80, 97, 114, 116, 65, 116, 76, 101, 97, 115, 116], [108, 111, 111, 112, 46, 101, 120, 97, 109, 112,
  108, 101, 47, 103, 48, 49, 51, 48, 54, 47, 108, 97, 119, 115, 46, 70, 110, 69, 120, 97, 99, 116, 87, 97, 121, 115, 75, 101, 112, 116], [108, 111,
  111, 112, 46, 101, 120, 97, 109, 112, 108, 101, 47, 103, 48, 49, 51, 48, 54, 47, 108, 97, 119, 115, 46, 70, 110, 69, 120, 97, 99, 116, 65, 118, 101,
  114, 97, 103, 101, 75, 101, 112, 116], [108, 111, 111, 112, 46, 101, 120, 97, 109, 112, 108, 101, 47, 103, 48, 49, 51, 48, 54, 47, 108, 97, 119,
  115, 46, 70, 110, 69, 120, 97, 99, 116, 87, 97, 121, 115, 65, 103, 97, 105, 110], [108, 111, 111, 112, 46, 101, 120, 97, 109, 112, 108, 101, 47,
  103, 48, 49, 51, 48, 54, 47, 108, 97, 119, 115, 46, 70, 110, 69, 120, 97, 99, 116, 65, 118, 101, 114, 97, 103, 101, 65, 103, 97, 105, 110]] : List (List Nat)).map (·.map Char.ofNat)
theorem strip_cut (r : List (List Char)) : stripLifts liftWords ("cut".toList :: r) = ([], "cut".toList :: r) := by kernel_rfl
theorem make_of {P : Program} {r : List (List Char)} (h : behindMainWord (wordsSigns P.initOrder.toList) = "cut".toList :: r) : P.make = some .cut := by
  unfold Program.make
  rw [h]
  kernel_rfl
theorem lifts_of {P : Program} {r : List (List Char)} (h : behindMainWord (wordsSigns P.initOrder.toList) = "cut".toList :: r) : P.liftsFinal = false := by
  unfold Program.liftsFinal Program.headLifts
  rw [h]
  kernel_rfl
theorem enter_of {P : Program} {r : List (List Char)} (h : behindMainWord (wordsSigns P.initOrder.toList) = "cut".toList :: r) (h1 : P.laysLater = false) (h2 : P.bearsReflect = false) (h3 : P.doorFits [] = true) : P.mayEnter = true := by
  unfold Program.mayEnter
  rw [h]
  simp only [strip_cut, h1, h2, h3]
  kernel_rfl
theorem head_init : Try.prog.initOrder = String.ofList headSigns := by kernel_rfl
theorem head_list : Try.prog.initOrder.toList = headSigns := by rw [head_init, String.toList_ofList]
theorem head_words : behindMainWord (wordsSigns headSigns) = "cut".toList :: headRest := by kernel_rfl
theorem head_cut : behindMainWord (wordsSigns Try.prog.initOrder.toList) = "cut".toList :: headRest := by rw [head_list]; exact head_words
theorem head_make : Try.prog.make = some .cut := make_of head_cut
theorem head_lifts : Try.prog.liftsFinal = false := lifts_of head_cut
theorem head_lays : Try.prog.laysLater = false := by kernel_rfl
theorem head_refl : Try.prog.bearsReflect = false := by kernel_rfl
theorem head_door : Try.prog.doorFits [] = true := by kernel_rfl
theorem head_enter : Try.prog.mayEnter = true := enter_of head_cut head_lays head_refl head_door
theorem head_laid : laidOutB Try.prog = true := by kernel_rfl
theorem head_maps : mapsRowed Try.prog = true := by kernel_rfl
theorem head_own : ownKnob Try.prog.godebug = none := by kernel_rfl
end Go.Proofs.Ytblpfjjnlfjloab
