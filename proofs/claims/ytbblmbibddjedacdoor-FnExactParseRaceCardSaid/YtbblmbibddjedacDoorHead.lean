/-
  The closed facts on the head of this seat's dump that each row asks: its signs are written out once, so that the kernel need not unroll the text. Written by program (wip/tools/head.py).
-/
import Derived.Test.YtbblmbibddjedacDoorRows
import Derived.JoinedOf
import Derived.KernelRfl
namespace Go.Proofs.YtbblmbibddjedacDoor
def headSigns : List Char := (
  [104, 97, 114, 110, 101, 115, 115, 32, 53, 50, 55, 54, 55, 53, 51, 51, 100, 53, 57, 99, 48, 48, 102, 98, 48, 101, 98, 99, 54, 102, 56, 48, 57, 53,
  48, 57, 55, 98, 102, 48, 102, 97, 49, 56, 99, 57, 51, 57, 98, 53, 50, 51, 97, 48, 102, 53, 53, 50, 57, 97, 56, 54, 48, 97, 97, 57, 54, 57, 49, 99,
  98, 101, 32, 99, 117, 116, 32, 97, 116, 32, 108, 111, 111, 112, 46, 101, 120, 97, 109, 112, 108, 101, 47, 103, 48, 49, 51, 48, 54, 47, 108, 97, 119,
  115, 46, 70, 110, 69, 120, 97, 99, 116, 82, 97, 99, 101, 84, 101, 120, 116, 32, 108, 111, 111, 112, 46, 101, 120, 97, 109, 112, 108, 101, 47, 103,
  48, 49, 51, 48, 54, 47, 108, 97, 119, 115, 46, 70, 110, 69, 120, 97, 99, 116, 80, 97, 114, 115, 101, 82, 97, 99, 101, 32, 108, 111, 111, 112, 46,
  101, 120, 97, 109, 112, 108, 101, 47, 103, 48, 49, 51, 48, 54, 47, 108, 97, 119, 115, 46, 70, 110, 69, 120, 97, 99, 116, 80, 97, 114, 115, 101, 66,
  111, 97, 114, 100] : List Nat).map Char.ofNat
def headRest : List (List Char) := (
  [[97, 116], [108, 111, 111, 112, 46, 101, 120, 97, 109, 112, 108, 101, 47, 103, 48, 49, 51, 48, 54, 47, 108, 97, 119, 115, 46, 70, 110, 69, 120, 97,
  99, 116, 82, 97, 99, 101, 84, 101, 120, 116], [108, 111, 111, 112, 46, 101, 120, 97, 109, 112, 108, 101, 47, 103, 48, 49, 51, 48, 54, 47, 108, 97,
  119, 115, 46, 70, 110, 69, 120, 97, 99, 116, 80, 97, 114, 115, 101, 82, 97, 99, 101], [108, 111, 111, 112, 46, 101, 120, 97, 109, 112, 108, 101, 47,
  103, 48, 49, 51, 48, 54, 47, 108, 97, 119, 115, 46, 70, 110, 69, 120, 97, 99, 116, 80, 97, 114, 115, 101, 66, 111, 97, 114, 100]] : List (List Nat)).map (·.map Char.ofNat)
theorem strip_cut (r : List (List Char)) : stripLifts liftWords ("cut".toList :: r) = ([], "cut".toList :: r) := by kernel_rfl
theorem make_of {P : Program} {r : List (List Char)} (h : behindMainWord (wordsSigns P.initOrder.toList) = "cut".toList :: r) : P.make = some .cut := by
  unfold Program.make
  rw [h]
  kernel_rfl
theorem lifts_of {P : Program} {r : List (List Char)} (h : behindMainWord (wordsSigns P.initOrder.toList) = "cut".toList :: r) : P.liftsFinal = false := by
  unfold Program.liftsFinal Program.headLifts
  rw [h]
  kernel_rfl
theorem enter_of {P : Program} {r : List (List Char)} (h : behindMainWord (wordsSigns P.initOrder.toList) = "cut".toList :: r) (h1 : P.laysLater = false) (h2 : P.bearsReflect = false) (h3 : P.doorFits [] = true) : P.mayEnter = true := by
  unfold Program.mayEnter
  rw [h]
  simp only [strip_cut, h1, h2, h3]
  kernel_rfl
theorem head_init : Tryd.prog.initOrder = String.ofList headSigns := by kernel_rfl
theorem head_list : Tryd.prog.initOrder.toList = headSigns := by rw [head_init, String.toList_ofList]
theorem head_words : behindMainWord (wordsSigns headSigns) = "cut".toList :: headRest := by kernel_rfl
theorem head_cut : behindMainWord (wordsSigns Tryd.prog.initOrder.toList) = "cut".toList :: headRest := by rw [head_list]; exact head_words
theorem head_make : Tryd.prog.make = some .cut := make_of head_cut
theorem head_lifts : Tryd.prog.liftsFinal = false := lifts_of head_cut
theorem head_lays : Tryd.prog.laysLater = false := by kernel_rfl
theorem head_refl : Tryd.prog.bearsReflect = false := by kernel_rfl
theorem head_door : Tryd.prog.doorFits [] = true := by kernel_rfl
theorem head_enter : Tryd.prog.mayEnter = true := enter_of head_cut head_lays head_refl head_door
theorem head_laid : laidOutB Tryd.prog = true := by kernel_rfl
theorem head_maps : mapsRowed Tryd.prog = true := by kernel_rfl
theorem head_own : ownKnob Tryd.prog.godebug = none := by kernel_rfl
end Go.Proofs.YtbblmbibddjedacDoor
