package tests

import (
	"maps"
	"math/big"
	"slices"
	"testing"

	"loop.example/g01306/impl"
)

// Promise 6: sums have all throws, and are alike from both ends.

func TestExampleOfDice(t *testing.T) {
	checkNumber(t, "WaysOfSum", 6)(impl.WaysOfSum(2, 6, 7))
	checkListOf(t, "LikeliestSums", 7)(impl.LikeliestSums(2, 6))
	checkRatText(t, "AverageSum", "7")(impl.AverageSum(2, 6))
	checkRatText(t, "PartAtLeast", "1/6")(impl.PartAtLeast(2, 6, 10))
	checkNumber(t, "WaysKept", 16)(impl.WaysKept(3, 6, 2, 12))
	checkNumber(t, "WaysAgain", 1)(impl.WaysAgain(4, 1, 6))
	checkNumber(t, "WaysAgain", 4)(impl.WaysAgain(4, 1, 3))
	checkRatText(t, "ThrowsForAll", "147/10")(impl.ThrowsForAll(6))
	checkNumber(t, "CountSame", 6)(impl.CountSame(2, 6, 2))
	checkNumber(t, "CountRuns", 24)(impl.CountRuns(3, 6, 3))
}

func TestSumsOfTwoDice(t *testing.T) {
	checkListOf(t, "SumTable", 1, 2, 3, 4, 5, 6, 5, 4, 3, 2, 1)(impl.SumTable(2, 6))
	for sum, part := range map[int]string{0: "1", 2: "1", 3: "35/36", 7: "7/12", 12: "1/36", 13: "0", 200: "0"} {
		checkRatText(t, "PartAtLeast", part)(impl.PartAtLeast(2, 6, sum))
	}
	checkListOf(t, "SumTable", 1, 2, 1)(impl.SumTable(2, 2))
	checkListOf(t, "SumTable", 1, 3, 6, 7, 6, 3, 1)(impl.SumTable(3, 3))
	checkRatText(t, "AverageKept", "161/36")(impl.AverageKept(2, 6, 1))
	checkRatText(t, "AverageKept", "203/24")(impl.AverageKept(3, 6, 2))
}

func TestOneDie(t *testing.T) {
	for faces := 1; faces <= 12; faces++ {
		once := slices.Repeat([]int{1}, faces)
		checkListOf(t, "SumTable", once...)(impl.SumTable(1, faces))
		var sums []int
		for face := 1; face <= faces; face++ {
			sums = append(sums, face)
			checkNumber(t, "WaysOfSum", 1)(impl.WaysOfSum(1, faces, face))
			checkNumber(t, "WaysKept", 1)(impl.WaysKept(1, faces, 1, face))
			checkNumber(t, "CountSome", 1)(impl.CountSome(1, faces, face))
			checkNumber(t, "CountGreatest", 1)(impl.CountGreatest(1, faces, face))
			checkRat(t, "PartAtLeast", big.NewRat(int64(faces-face+1), int64(faces)))(impl.PartAtLeast(1, faces, face))
		}
		checkListOf(t, "LikeliestSums", sums...)(impl.LikeliestSums(1, faces))
		checkRat(t, "AverageSum", big.NewRat(int64(faces+1), 2))(impl.AverageSum(1, faces))
		checkRat(t, "AverageKept", big.NewRat(int64(faces+1), 2))(impl.AverageKept(1, faces, 1))
		checkNumber(t, "CountSame", faces)(impl.CountSame(1, faces, 1))
		checkNumber(t, "CountSame", 0)(impl.CountSame(1, faces, 2))
		checkNumber(t, "CountRuns", faces)(impl.CountRuns(1, faces, 1))
		checkNumber(t, "CountRuns", 0)(impl.CountRuns(1, faces, 2))
	}
	checkNumber(t, "CountEachFace", 1)(impl.CountEachFace(1, 1))
	checkNumber(t, "CountEachFace", 0)(impl.CountEachFace(1, 2))
}

func TestDiceOfOneFace(t *testing.T) {
	for dice := 1; dice <= 8; dice++ {
		checkListOf(t, "SumTable", 1)(impl.SumTable(dice, 1))
		checkListOf(t, "LikeliestSums", dice)(impl.LikeliestSums(dice, 1))
		checkRat(t, "AverageSum", big.NewRat(int64(dice), 1))(impl.AverageSum(dice, 1))
		checkNumber(t, "CountSome", 1)(impl.CountSome(dice, 1, 1))
		checkNumber(t, "CountEachFace", 1)(impl.CountEachFace(dice, 1))
		checkNumber(t, "CountGreatest", 1)(impl.CountGreatest(dice, 1, 1))
		for kept := 1; kept <= dice; kept++ {
			checkNumber(t, "WaysKept", 1)(impl.WaysKept(dice, 1, kept, kept))
			checkNumber(t, "WaysKept", 0)(impl.WaysKept(dice, 1, kept, kept+1))
			checkNumber(t, "WaysKept", 0)(impl.WaysKept(dice, 1, kept, kept-1))
			checkRat(t, "AverageKept", big.NewRat(int64(kept), 1))(impl.AverageKept(dice, 1, kept))
		}
		for n := 1; n <= 8; n++ {
			checkNumber(t, "CountSame", max(0, 1-max(n-dice, dice-n)))(impl.CountSame(dice, 1, n))
			checkNumber(t, "CountRuns", max(0, 2-n))(impl.CountRuns(dice, 1, n))
		}
	}
	// Its face is the greatest one, so that all throws count.
	for again := 0; again <= 6; again++ {
		for total := 0; total <= 200; total++ {
			want := 0
			if total == again+1 {
				want = 1
			}
			checkNumber(t, "WaysAgain", want)(impl.WaysAgain(1, again, total))
		}
		checkRat(t, "AverageAgain", big.NewRat(int64(again+1), 1))(impl.AverageAgain(1, again))
	}
	checkRatText(t, "ThrowsForAll", "1")(impl.ThrowsForAll(1))
}

func TestGreatestDice(t *testing.T) {
	sums, ok := impl.SumTable(8, 12)
	if !ok || len(sums) != 89 || sums[0] != 1 || sums[1] != 8 || sums[87] != 8 || sums[88] != 1 {
		t.Error("SumTable", sums, ok)
	}
	checkNumber(t, "WaysOfSum", 1)(impl.WaysOfSum(8, 12, 8))
	checkNumber(t, "WaysOfSum", 1)(impl.WaysOfSum(8, 12, 96))
	checkNumber(t, "WaysOfSum", 0)(impl.WaysOfSum(8, 12, 97))
	checkListOf(t, "LikeliestSums", 52)(impl.LikeliestSums(8, 12))
	checkRatText(t, "AverageSum", "52")(impl.AverageSum(8, 12))
	checkRatText(t, "PartAtLeast", "1/429981696")(impl.PartAtLeast(8, 12, 96))
	checkNumber(t, "CountSome", 429981696-214358881)(impl.CountSome(8, 12, 12))
	checkNumber(t, "CountGreatest", 429981696-214358881)(impl.CountGreatest(8, 12, 12))
	checkNumber(t, "CountGreatest", 1)(impl.CountGreatest(8, 12, 1))
	checkNumber(t, "CountSame", 12)(impl.CountSame(8, 12, 8))
	checkNumber(t, "CountSame", 12*11*10*9*8*7*6*5)(impl.CountSame(8, 12, 1))
	checkNumber(t, "CountRuns", 5*40320)(impl.CountRuns(8, 12, 8))
	checkNumber(t, "CountEachFace", 40320)(impl.CountEachFace(8, 8))
	checkRatText(t, "ThrowsForAll", "86021/2310")(impl.ThrowsForAll(12))
	checkNumber(t, "WaysAgain", 1)(impl.WaysAgain(12, 6, 84))
	checkNumber(t, "WaysAgain", 2985984)(impl.WaysAgain(12, 6, 1))
}

// sumCalls calls what takes a sum.
func sumCalls(sum int) []call {
	return []call{
		made("WaysOfSum")(impl.WaysOfSum(2, 6, sum)),
		made("PartAtLeast")(impl.PartAtLeast(2, 6, sum)),
		made("WaysKept")(impl.WaysKept(2, 6, 1, sum)),
		made("WaysAgain")(impl.WaysAgain(6, 1, sum)),
	}
}

func TestSumsThatNoThrowHas(t *testing.T) {
	for _, sum := range []int{0, 1, 13, 14, 97, 199, 200} {
		checkNumber(t, "WaysOfSum", 0)(impl.WaysOfSum(2, 6, sum))
		checkNumber(t, "WaysKept", 0)(impl.WaysKept(3, 6, 2, sum))
		checkNumber(t, "WaysAgain", 0)(impl.WaysAgain(1, 2, sum))
	}
	for _, sum := range []int{13, 14, 97, 199, 200} {
		checkRatText(t, "PartAtLeast", "0")(impl.PartAtLeast(2, 6, sum))
	}
	x, y, ok := impl.PartAtLeast(2, 6, 13)
	checkPart(t, "PartAtLeast", x, y, ok, 0, 1)
	x, y, ok = impl.PartAtLeast(8, 12, 200)
	checkPart(t, "PartAtLeast", x, y, ok, 0, 1)
	x, y, ok = impl.PartAtLeast(8, 12, 0)
	checkPart(t, "PartAtLeast", x, y, ok, 1, 1)
	x, y, ok = impl.PartAtLeast(8, 12, 8)
	checkPart(t, "PartAtLeast", x, y, ok, 1, 1)
	checkFails(t, "a sum less than 0", sumCalls(-1))
	checkAllSucceed(t, "the sum 0", sumCalls(0))
	checkAllSucceed(t, "the sum 200", sumCalls(200))
	checkFails(t, "a sum of 201", sumCalls(201))
}

func TestDiceThatAreKept(t *testing.T) {
	// The greatest of two dice.
	for face, ways := range []int{0, 1, 3, 5, 7, 9, 11, 0} {
		checkNumber(t, "WaysKept", ways)(impl.WaysKept(2, 6, 1, face))
	}
	// The greatest two of three: of all that have 11, one six, and one five at
	// least.
	checkNumber(t, "WaysKept", 27)(impl.WaysKept(3, 6, 2, 11))
	checkNumber(t, "WaysKept", 1)(impl.WaysKept(3, 6, 2, 2))
	checkNumber(t, "WaysKept", 3)(impl.WaysKept(3, 6, 2, 3))
	for _, d := range modelAllDice() {
		// All dice are kept.
		checkRat(t, "AverageKept", rat(impl.AverageSum(d.dice, d.faces)))(impl.AverageKept(d.dice, d.faces, d.dice))
		// One is kept: the greatest face.
		for face := 1; face <= d.faces; face++ {
			greatest, ok := impl.CountGreatest(d.dice, d.faces, face)
			kept, fine := impl.WaysKept(d.dice, d.faces, 1, face)
			checkInt(t, "WaysKept", kept, ok && fine, greatest)
		}
		if t.Failed() {
			t.Fatal(d)
		}
	}
	for _, kept := range []int{0, 4, 5, 8, 9} {
		checkFails(t, "kept dice that there are not", []call{
			made("WaysKept")(impl.WaysKept(3, 6, kept, 5)),
			made("AverageKept")(impl.AverageKept(3, 6, kept)),
		})
	}
}

func TestThrowsAgain(t *testing.T) {
	// Not thrown again: one throw.
	for total, ways := range []int{0, 1, 1, 1, 1, 0, 0, 0, 0} {
		checkNumber(t, "WaysAgain", ways)(impl.WaysAgain(4, 0, total))
	}
	checkRatText(t, "AverageAgain", "5/2")(impl.AverageAgain(4, 0))
	// 4 alone is no total, 4 with another throw is.
	for total, ways := range []int{0, 4, 4, 4, 0, 1, 1, 1, 1, 0} {
		checkNumber(t, "WaysAgain", ways)(impl.WaysAgain(4, 1, total))
	}
	checkRatText(t, "AverageAgain", "25/8")(impl.AverageAgain(4, 1))
	for total, ways := range []int{0, 64, 0, 32, 0, 16, 0, 8, 0, 4, 0, 2, 0, 1, 1, 0} {
		checkNumber(t, "WaysAgain", ways)(impl.WaysAgain(2, 6, total))
	}
	checkRatText(t, "AverageAgain", "381/128")(impl.AverageAgain(2, 6))
	for faces := 1; faces <= 12; faces++ {
		for _, again := range []int{-1, 7} {
			checkFails(t, "not so many throws", []call{
				made("WaysAgain")(impl.WaysAgain(faces, again, 1)),
				made("AverageAgain")(impl.AverageAgain(faces, again)),
			})
		}
	}
}

func TestSumsThatAreEquallyLikely(t *testing.T) {
	checkListOf(t, "LikeliestSums", 1, 2, 3, 4, 5, 6)(impl.LikeliestSums(1, 6))
	checkListOf(t, "LikeliestSums", 10, 11)(impl.LikeliestSums(3, 6))
	checkListOf(t, "LikeliestSums", 4, 5)(impl.LikeliestSums(3, 2))
	checkListOf(t, "LikeliestSums", 45, 46)(impl.LikeliestSums(7, 12))
	checkListOf(t, "LikeliestSums", 6)(impl.LikeliestSums(3, 3))
	checkListOf(t, "LikeliestSums", 14)(impl.LikeliestSums(4, 6))
}

func TestFacesThatCome(t *testing.T) {
	checkNumber(t, "CountSome", 11)(impl.CountSome(2, 6, 1))
	checkNumber(t, "CountSome", 11)(impl.CountSome(2, 6, 6))
	checkNumber(t, "CountSome", 91)(impl.CountSome(3, 6, 4))
	checkNumber(t, "CountGreatest", 1)(impl.CountGreatest(3, 6, 1))
	checkNumber(t, "CountGreatest", 91)(impl.CountGreatest(3, 6, 6))
	checkNumber(t, "CountEachFace", 6)(impl.CountEachFace(3, 3))
	checkNumber(t, "CountEachFace", 36)(impl.CountEachFace(4, 3))
	checkNumber(t, "CountEachFace", 720)(impl.CountEachFace(6, 6))
	// More faces than dice.
	checkNumber(t, "CountEachFace", 0)(impl.CountEachFace(5, 6))
	checkNumber(t, "CountEachFace", 0)(impl.CountEachFace(8, 9))
	checkNumber(t, "CountEachFace", 0)(impl.CountEachFace(8, 12))
	for faces, mean := range []string{"", "1", "3", "11/2", "25/3", "137/12", "147/10"} {
		checkRatText(t, "ThrowsForAll", mean)(impl.ThrowsForAll(faces))
	}
	for faces := 1; faces <= 12; faces++ {
		for _, face := range []int{-1, 0, faces + 1, 13} {
			checkFails(t, "no face", []call{
				made("CountSome")(impl.CountSome(2, faces, face)),
				made("CountGreatest")(impl.CountGreatest(2, faces, face)),
			})
		}
	}
}

func TestEqualDice(t *testing.T) {
	for same, throws := range map[int]int{1: 6 * 5 * 4 * 3, 2: 6*5*4/2*12 + 15*6, 3: 6 * 5 * 4, 4: 6, 5: 0, 8: 0} {
		checkNumber(t, "CountSame", throws)(impl.CountSame(4, 6, same))
	}
	// More dice than faces: some have the same face.
	checkNumber(t, "CountSame", 0)(impl.CountSame(7, 6, 1))
	checkNumber(t, "CountSame", 0)(impl.CountSame(8, 3, 2))
	checkNumber(t, "CountSame", 70)(impl.CountSame(8, 2, 4))
	checkNumber(t, "CountSame", 2)(impl.CountSame(8, 2, 8))
	for _, d := range modelAllDice() {
		for _, same := range []int{-1, 0, 9, 12} {
			checkFails(t, "no number of equal dice", []call{made("CountSame")(impl.CountSame(d.dice, d.faces, same))})
		}
		for same := d.dice + 1; same <= 8; same++ {
			checkNumber(t, "CountSame", 0)(impl.CountSame(d.dice, d.faces, same))
		}
	}
}

func TestRuns(t *testing.T) {
	// All but throws of faces that are apart, or of one face.
	checkNumber(t, "CountRuns", 10)(impl.CountRuns(2, 6, 2))
	checkNumber(t, "CountRuns", 240)(impl.CountRuns(5, 6, 5))
	// 12345 and 23456, 12346 and 13456, and just 1234, 2345 or 3456.
	checkNumber(t, "CountRuns", 2*120+2*120+3*240)(impl.CountRuns(5, 6, 4))
	checkNumber(t, "CountRuns", 0)(impl.CountRuns(5, 6, 6))
	checkNumber(t, "CountRuns", 0)(impl.CountRuns(8, 6, 7))
	checkNumber(t, "CountRuns", 0)(impl.CountRuns(8, 12, 9))
	checkNumber(t, "CountRuns", 0)(impl.CountRuns(8, 12, 12))
	// The greatest face is not behind the face 1 in a run.
	checkNumber(t, "CountRuns", 4)(impl.CountRuns(2, 3, 2))
	for _, d := range modelAllDice() {
		checkNumber(t, "CountRuns", d.throws())(impl.CountRuns(d.dice, d.faces, 1))
		for _, run := range []int{-1, 0, 13} {
			checkFails(t, "no run", []call{made("CountRuns")(impl.CountRuns(d.dice, d.faces, run))})
		}
		for run := min(d.dice, d.faces) + 1; run <= 12; run++ {
			checkNumber(t, "CountRuns", 0)(impl.CountRuns(d.dice, d.faces, run))
		}
	}
}

// checkFew holds dice with few throws against all of them.
func checkFew(t *testing.T, d modelDice) {
	t.Helper()
	for kept := 1; kept <= d.dice; kept++ {
		ways := map[int]int{}
		for _, throw := range modelAllLists(d.faces, d.dice) {
			ways[modelSum(throw, kept)]++
		}
		if !maps.Equal(ways, modelKept(d, kept)) {
			t.Error("the models differ:", d, kept)
		}
	}
	for face := 1; face <= d.faces; face++ {
		checkNumber(t, "CountSome", d.count(func(throw []int) bool { return slices.Contains(throw, face) }))(impl.CountSome(d.dice, d.faces, face))
		checkNumber(t, "CountGreatest", d.count(func(throw []int) bool { return slices.Max(throw) == face }))(impl.CountGreatest(d.dice, d.faces, face))
	}
	for same := 1; same <= 8; same++ {
		checkNumber(t, "CountSame", d.count(func(throw []int) bool { return modelTimes(throw) == same }))(impl.CountSame(d.dice, d.faces, same))
	}
	for run := 1; run <= 12; run++ {
		checkNumber(t, "CountRuns", d.count(func(throw []int) bool { return modelHasRun(throw, run) }))(impl.CountRuns(d.dice, d.faces, run))
	}
	checkNumber(t, "CountEachFace", d.count(func(throw []int) bool {
		slices.Sort(throw)
		return len(slices.Compact(throw)) == d.faces
	}))(impl.CountEachFace(d.dice, d.faces))
}

func TestFewThrowsAreAsAllOfThem(t *testing.T) {
	looked := 0
	for _, d := range modelAllDice() {
		if d.few() {
			looked++
			checkFew(t, d)
		}
		if t.Failed() {
			t.Fatal(d)
		}
	}
	if looked < 40 {
		t.Error("too few dice:", looked)
	}
}

// toldSums returns all sums that may be told for dice with few throws, and the
// sums around the least, the middle and the greatest one for others.
func toldSums(d modelDice, kept int) []int {
	var sums []int
	for sum := range 201 {
		at := []int{0, kept, kept * (d.faces + 1) / 2, kept * d.faces, 200}
		near := slices.ContainsFunc(at, func(n int) bool { return max(sum-n, n-sum) <= 1 })
		if near || d.few() {
			sums = append(sums, sum)
		}
	}
	return sums
}

func TestSumsOfAllDiceAreAsTheModel(t *testing.T) {
	for _, d := range modelAllDice() {
		for kept := 1; kept <= d.dice; kept++ {
			ways := modelKept(d, kept)
			for _, sum := range toldSums(d, kept) {
				checkNumber(t, "WaysKept", ways[sum])(impl.WaysKept(d.dice, d.faces, kept, sum))
			}
			checkRat(t, "AverageKept", modelMean(ways))(impl.AverageKept(d.dice, d.faces, kept))
		}
		ways := modelKept(d, d.dice)
		for _, sum := range toldSums(d, d.dice) {
			checkNumber(t, "WaysOfSum", ways[sum])(impl.WaysOfSum(d.dice, d.faces, sum))
			checkRat(t, "PartAtLeast", modelPart(ways, sum))(impl.PartAtLeast(d.dice, d.faces, sum))
		}
		checkRat(t, "AverageSum", modelMean(ways))(impl.AverageSum(d.dice, d.faces))
		var table, likeliest []int
		for _, sum := range slices.Sorted(maps.Keys(ways)) {
			table = append(table, ways[sum])
			if ways[sum] == slices.Max(slices.Collect(maps.Values(ways))) {
				likeliest = append(likeliest, sum)
			}
		}
		checkListOf(t, "SumTable", table...)(impl.SumTable(d.dice, d.faces))
		checkListOf(t, "LikeliestSums", likeliest...)(impl.LikeliestSums(d.dice, d.faces))
		if t.Failed() {
			t.Fatal(d)
		}
	}
}

func TestCountsOfAllDiceAreAsTheModel(t *testing.T) {
	for _, d := range modelAllDice() {
		for same := 1; same <= 8; same++ {
			checkNumber(t, "CountSame", modelAtMost(d, same)-modelAtMost(d, same-1))(impl.CountSame(d.dice, d.faces, same))
		}
		for run := 1; run <= 12; run++ {
			checkNumber(t, "CountRuns", modelRuns(d, run, 0))(impl.CountRuns(d.dice, d.faces, run))
		}
		checkNumber(t, "CountEachFace", modelEach(d))(impl.CountEachFace(d.dice, d.faces))
		for face := 1; face <= d.faces; face++ {
			without, upTo, below := modelDice{d.dice, d.faces - 1}, modelDice{d.dice, face}, modelDice{d.dice, face - 1}
			checkNumber(t, "CountSome", d.throws()-without.throws())(impl.CountSome(d.dice, d.faces, face))
			checkNumber(t, "CountGreatest", upTo.throws()-below.throws())(impl.CountGreatest(d.dice, d.faces, face))
		}
		if t.Failed() {
			t.Fatal(d)
		}
	}
}

func TestThrowsAgainAreAsTheModel(t *testing.T) {
	for faces := 1; faces <= 12; faces++ {
		checkRat(t, "ThrowsForAll", modelForAll(faces))(impl.ThrowsForAll(faces))
		for again := 0; again <= 6; again++ {
			ways := modelAgain(faces, again)
			if (modelDice{again + 1, faces}).few() {
				all := map[int]int{}
				for _, list := range modelAllLists(faces, again+1) {
					all[modelTotal(faces, list)]++
				}
				if !maps.Equal(ways, all) {
					t.Error("the models differ:", faces, again)
				}
			}
			for total := range 201 {
				checkNumber(t, "WaysAgain", ways[total])(impl.WaysAgain(faces, again, total))
			}
			checkRat(t, "AverageAgain", modelMean(ways))(impl.AverageAgain(faces, again))
			checkRat(t, "AverageAgain", modelMeanAgain(faces, again))(impl.AverageAgain(faces, again))
		}
	}
}

func TestSumsHaveAllThrows(t *testing.T) {
	for _, d := range modelAllDice() {
		table, ok := impl.SumTable(d.dice, d.faces)
		if !ok || len(table) != d.dice*(d.faces-1)+1 {
			t.Error("SumTable", d, table, ok)
		}
		throws := 0
		for _, n := range table {
			throws += n
		}
		checkInt(t, "SumTable", throws, ok, d.throws())
		same, greatest := 0, 0
		for n := 1; n <= 8; n++ {
			throws, _ := impl.CountSame(d.dice, d.faces, n)
			same += throws
		}
		for face := 1; face <= d.faces; face++ {
			throws, _ := impl.CountGreatest(d.dice, d.faces, face)
			greatest += throws
		}
		checkInt(t, "CountSame of all numbers", same, true, d.throws())
		checkInt(t, "CountGreatest of all faces", greatest, true, d.throws())
		if t.Failed() {
			t.Fatal(d)
		}
	}
	for faces := 1; faces <= 12; faces++ {
		for again := range 7 {
			lists := 0
			for total := range 201 {
				n, _ := impl.WaysAgain(faces, again, total)
				lists += n
			}
			checkInt(t, "WaysAgain of all totals", lists, true, modelDice{again + 1, faces}.throws())
		}
	}
}

func TestSumsAreAlikeFromBothEnds(t *testing.T) {
	for _, d := range modelAllDice() {
		both := d.dice * (d.faces + 1)
		table, ok := impl.SumTable(d.dice, d.faces)
		back := slices.Clone(table)
		slices.Reverse(back)
		checkList(t, "SumTable", table, ok, back...)
		checkRat(t, "AverageSum", big.NewRat(int64(both), 2))(impl.AverageSum(d.dice, d.faces))
		likeliest, ok := impl.LikeliestSums(d.dice, d.faces)
		for i, sum := range likeliest {
			checkInt(t, "LikeliestSums", both-sum, ok, likeliest[len(likeliest)-1-i])
		}
		for _, sum := range toldSums(d, d.dice) {
			if sum < d.dice || sum > d.dice*d.faces {
				continue
			}
			n, ok := impl.WaysOfSum(d.dice, d.faces, sum)
			checkInt(t, "SumTable", table[sum-d.dice], ok, n)
			checkNumber(t, "WaysOfSum", n)(impl.WaysOfSum(d.dice, d.faces, both-sum))
			// As many throws have at least a sum as have at most the other one.
			part := rat(impl.PartAtLeast(d.dice, d.faces, sum))
			part.Add(part, rat(impl.PartAtLeast(d.dice, d.faces, both-sum+1)))
			if part.Cmp(big.NewRat(1, 1)) != 0 {
				t.Error("PartAtLeast", d, sum, part)
			}
		}
		if t.Failed() {
			t.Fatal(d)
		}
	}
}
