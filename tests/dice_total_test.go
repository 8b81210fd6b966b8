package tests

import (
	"math"
	"reflect"
	"slices"
	"testing"

	"loop.example/g01306/impl"
)

// Promise 11 for chapter 6.

// sumsCalls calls what takes dice, and sums of them that are told.
func sumsCalls(dice int, faces int, kept int, sum int) []call {
	return []call{
		made("WaysOfSum")(impl.WaysOfSum(dice, faces, sum)),
		made("SumTable")(impl.SumTable(dice, faces)),
		made("LikeliestSums")(impl.LikeliestSums(dice, faces)),
		made("AverageSum")(impl.AverageSum(dice, faces)),
		made("PartAtLeast")(impl.PartAtLeast(dice, faces, sum)),
		made("WaysKept")(impl.WaysKept(dice, faces, kept, sum)),
		made("AverageKept")(impl.AverageKept(dice, faces, kept)),
	}
}

// facesCalls calls what takes dice, and faces of them that are told.
func facesCalls(dice int, faces int, face int, same int, run int) []call {
	return []call{
		made("CountSome")(impl.CountSome(dice, faces, face)),
		made("CountEachFace")(impl.CountEachFace(dice, faces)),
		made("CountSame")(impl.CountSame(dice, faces, same)),
		made("CountRuns")(impl.CountRuns(dice, faces, run)),
		made("CountGreatest")(impl.CountGreatest(dice, faces, face)),
	}
}

// oneDieCalls calls what takes one die.
func oneDieCalls(faces int, again int, total int) []call {
	return []call{
		made("WaysAgain")(impl.WaysAgain(faces, again, total)),
		made("AverageAgain")(impl.AverageAgain(faces, again)),
		made("ThrowsForAll")(impl.ThrowsForAll(faces)),
	}
}

func TestDiceThatThereAreDoNotFail(t *testing.T) {
	for dice := 1; dice <= 8; dice++ {
		for faces := 1; faces <= 12; faces++ {
			checkAllSucceed(t, "dice", sumsCalls(dice, faces, 1, 0))
			checkAllSucceed(t, "dice", sumsCalls(dice, faces, dice, 200))
			checkAllSucceed(t, "dice", facesCalls(dice, faces, 1, 1, 1))
			checkAllSucceed(t, "dice", facesCalls(dice, faces, faces, 8, 12))
			checkAllSucceed(t, "one die", oneDieCalls(faces, 0, 0))
			checkAllSucceed(t, "one die", oneDieCalls(faces, 6, 200))
		}
	}
}

func TestDiceThatAreNoneFail(t *testing.T) {
	for _, dice := range []int{math.MinInt, -1, 0, 9, 10, math.MaxInt} {
		for _, faces := range []int{1, 6, 12} {
			checkFails(t, "no such dice", sumsCalls(dice, faces, 1, 1))
			checkFails(t, "no such dice", sumsCalls(dice, faces, dice, dice))
			checkFails(t, "no such dice", facesCalls(dice, faces, 1, 1, 1))
		}
	}
	for _, faces := range []int{math.MinInt, -1, 0, 13, 14, math.MaxInt} {
		for _, dice := range []int{1, 2, 8} {
			checkFails(t, "no such faces", sumsCalls(dice, faces, 1, 1))
			checkFails(t, "no such faces", sumsCalls(dice, faces, dice, dice))
			checkFails(t, "no such faces", facesCalls(dice, faces, 1, 1, 1))
			checkFails(t, "no such faces", facesCalls(dice, faces, faces, 1, faces))
		}
		checkFails(t, "no such faces", oneDieCalls(faces, 1, 1))
		checkFails(t, "no such faces", oneDieCalls(faces, 0, 0))
	}
}

func TestWhatIsToldOfDiceFails(t *testing.T) {
	for _, sum := range []int{math.MinInt, -1, 201, math.MaxInt} {
		checkFails(t, "no sum", sumCalls(sum))
	}
	for _, n := range []int{math.MinInt, -1, 0, 13, math.MaxInt} {
		checkFails(t, "not so many dice", []call{
			made("WaysKept")(impl.WaysKept(8, 12, n, 8)),
			made("AverageKept")(impl.AverageKept(8, 12, n)),
		})
		checkFails(t, "no such numbers", []call{
			made("CountSome")(impl.CountSome(8, 12, n)),
			made("CountSame")(impl.CountSame(8, 12, n)),
			made("CountRuns")(impl.CountRuns(8, 12, n)),
			made("CountGreatest")(impl.CountGreatest(8, 12, n)),
		})
	}
	for _, again := range []int{math.MinInt, -1, 7, math.MaxInt} {
		checkFails(t, "not so many throws", oneDieCalls(12, again, 12)[:2])
	}
}

func TestGreatestNumbersOfDiceDoNotPanic(t *testing.T) {
	numbers := []int{math.MinInt, -1, 0, 1, 8, 9, 12, 13, 201, math.MaxInt}
	for _, x := range numbers {
		for _, y := range numbers {
			oneDieCalls(x, y, x)
			oneDieCalls(y, 6, x)
			sumsCalls(2, 2, x, y)
			facesCalls(2, 2, x, y, x)
			for _, z := range numbers {
				sumsCalls(x, y, z, x)
				facesCalls(x, y, z, z, y)
				oneDieCalls(x, y, z)
			}
		}
	}
}

func TestDiceShareNoMemory(t *testing.T) {
	for _, d := range modelAllDice() {
		if !d.few() {
			continue
		}
		all := func() []call {
			return slices.Concat(sumsCalls(d.dice, d.faces, 1, d.dice), facesCalls(d.dice, d.faces, 1, 1, 1), oneDieCalls(d.faces, 2, 3))
		}
		kept := all()
		scratchResults(all())
		if !reflect.DeepEqual(kept, all()) {
			t.Error("a result is shared:", d)
		}
	}
}
