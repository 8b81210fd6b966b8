package tests

import (
	"math/big"
	"slices"
	"testing"

	"loop.example/g01306/impl"
)

// Promise 3: means are one throw and the mean of what it leads to, and visits of all squares are all throws.

// checkRat wants a fraction in lowest terms: none for a nil one.
func checkRat(t *testing.T, what string, want *big.Rat) func(x int, y int, ok bool) {
	return func(x int, y int, ok bool) {
		t.Helper()
		if want == nil {
			if x != 0 || y != 0 || ok {
				t.Errorf("%s: got %d / %d, %v, want none", what, x, y, ok)
			}
			return
		}
		checkRatio(t, what, x, y, ok, want.Num(), want.Denom())
	}
}

// checkRatText wants a fraction that is told as a text, none for an empty one.
func checkRatText(t *testing.T, what string, text string) func(x int, y int, ok bool) {
	t.Helper()
	if text == "" {
		return checkRat(t, what, nil)
	}
	want, ok := new(big.Rat).SetString(text)
	if !ok {
		t.Fatal("no fraction", text)
	}
	return checkRat(t, what, want)
}

func checkMeansByOver(t *testing.T, b impl.Board, want ...*big.Rat) {
	t.Helper()
	means, ok := impl.MeansByOver(b)
	if slices.Contains(want, nil) {
		if ok || len(means) > 0 {
			t.Errorf("MeansByOver: got %v, %v, want none", means, ok)
		}
		return
	}
	if !ok || len(means) != len(want) {
		t.Fatalf("MeansByOver: got %v, %v, want %v", means, ok, want)
	}
	for over, mean := range means {
		if len(mean) != 2 {
			t.Fatal("MeansByOver", means)
		}
		checkRat(t, "MeansByOver", want[over])(mean[0], mean[1], ok)
	}
}

// checkSquareOrNone wants a square: none for one below 0.
func checkSquareOrNone(t *testing.T, what string, want int) func(square int, ok bool) {
	return func(square int, ok bool) {
		t.Helper()
		if square != max(want, 0) || ok != (want >= 0) {
			t.Errorf("%s: got %d, %v, want %d", what, square, ok, want)
		}
	}
}

func checkAdded(t *testing.T, b impl.Board, want impl.Jump, mean *big.Rat) {
	t.Helper()
	j, x, y, ok := impl.BestAdded(b)
	if j != want {
		t.Errorf("BestAdded: got %v, want %v", j, want)
	}
	checkRat(t, "BestAdded", mean)(x, y, ok)
}

func checkDropped(t *testing.T, b impl.Board, want int, mean *big.Rat) {
	t.Helper()
	from, x, y, ok := impl.BestDropped(b)
	if from != want {
		t.Errorf("BestDropped: got %d, want %d", from, want)
	}
	checkRat(t, "BestDropped", mean)(x, y, ok)
}

func TestExampleOfMeans(t *testing.T) {
	b := board(t, "2d2/0")
	checkRatText(t, "MeanThrows", "2")(impl.MeanThrows(b, 0))
	checkRatText(t, "MeanThrows from 1", "2")(impl.MeanThrows(b, 1))
	checkRatText(t, "MeanVisits", "1")(impl.MeanVisits(b, 0, 1))
	checkRatText(t, "ChanceToMeet", "1/2")(impl.ChanceToMeet(b, 0, 1))
	checkRatText(t, "MeanStays", "1/2")(impl.MeanStays(b, 0))
	checkMeansByOver(t, b, big.NewRat(2, 1), big.NewRat(3, 2), big.NewRat(2, 1))
}

func TestMeansOfTokenAtTheEnd(t *testing.T) {
	for _, text := range []string{"1d1/0", "2d2/1", "9d8/2", "4d2/0;1>0;2>0", "9d3/0;3>8;7>2"} {
		b := board(t, text)
		checkRatText(t, "MeanThrows", "0")(impl.MeanThrows(b, b.Squares))
		checkRatText(t, "MeanStays", "0")(impl.MeanStays(b, b.Squares))
		checkRatText(t, "ChanceToMeet the end", "1")(impl.ChanceToMeet(b, b.Squares, b.Squares))
		checkRatText(t, "ChanceToMeet the start", "0")(impl.ChanceToMeet(b, b.Squares, 0))
		checkRatText(t, "MeanVisits", "0")(impl.MeanVisits(b, b.Squares, 0))
		checkRatText(t, "MeanVisits of the end", "")(impl.MeanVisits(b, b.Squares, b.Squares))
		checkRatText(t, "MeanVisits of the end from the start", "")(impl.MeanVisits(b, 0, b.Squares))
		for k := range b.Jumps {
			checkRatText(t, "MeanJumps", "0")(impl.MeanJumps(b, b.Squares, k))
		}
		// No square is met, so all are equally likely.
		checkSquareOrNone(t, "LikeliestMet", 0)(impl.LikeliestMet(b, b.Squares))
		if has, ok := impl.HasMean(b, b.Squares); !has || !ok {
			t.Error("HasMean", text, has, ok)
		}
	}
}

func TestSquaresWithoutMean(t *testing.T) {
	// From the start all throws lead back to it; from 3 the end comes by 1.
	b := board(t, "4d2/0;1>0;2>0")
	checkMeanless(t, b, 0)
	checkRatText(t, "MeanThrows", "2")(impl.MeanThrows(b, 3))
	checkRatText(t, "MeanVisits of a square without hope", "0")(impl.MeanVisits(b, 3, 0))
	checkRatText(t, "ChanceToMeet a square without hope", "0")(impl.ChanceToMeet(b, 3, 0))
	checkSquareOrNone(t, "LikeliestMet", 0)(impl.LikeliestMet(b, 3))
	checkSquareOrNone(t, "LongestSquare", -1)(impl.LongestSquare(b))
	checkAdded(t, b, impl.Jump{}, nil)
	// From 3 the face 2 leads to the end at last, but 1 back to the start.
	b = board(t, "6d2/1;1>0;2>0;4>0")
	checkMeanless(t, b, 0)
	checkMeanless(t, b, 3)
	checkRatText(t, "MeanThrows", "1")(impl.MeanThrows(b, 5))
	// The start has a mean, but the square 3, that is not reached from it, has none.
	b = board(t, "5d1/0;1>5;4>3")
	checkMeanless(t, b, 2)
	checkMeanless(t, b, 3)
	checkRatText(t, "MeanThrows", "1")(impl.MeanThrows(b, 0))
	checkRatText(t, "ChanceToMeet", "0")(impl.ChanceToMeet(b, 0, 3))
	checkRatText(t, "MeanVisits", "0")(impl.MeanVisits(b, 0, 3))
	checkSquareOrNone(t, "LongestSquare", -1)(impl.LongestSquare(b))
}

// checkMeanless wants that a square has no mean, and that all fails that asks
// for one.
func checkMeanless(t *testing.T, b impl.Board, square int) {
	t.Helper()
	if has, ok := impl.HasMean(b, square); has || !ok {
		t.Error("HasMean", b, square, has, ok)
	}
	checkFails(t, "no mean", meanCalls(b, square, b.Squares, 0))
	checkFails(t, "no mean", meanCalls(b, square, square, 0))
	if square == 0 {
		checkFails(t, "no mean", []call{
			made("MeansByOver")(impl.MeansByOver(b)),
			made("CompareMeans")(impl.CompareMeans(b, board(t, "2d2/0"))),
			made("CompareMeans")(impl.CompareMeans(board(t, "2d2/0"), b)),
			made("CompareMeans")(impl.CompareMeans(b, b)),
		})
	}
}

func TestMeansOfBoardsWithoutJumps(t *testing.T) {
	b := board(t, "9d1/2")
	for square := range 9 {
		checkRat(t, "MeanThrows", big.NewRat(int64(9-square), 1))(impl.MeanThrows(b, square))
		checkRatText(t, "MeanVisits", "1")(impl.MeanVisits(b, 0, square))
		checkRatText(t, "ChanceToMeet", "1")(impl.ChanceToMeet(b, 0, square))
		if square > 0 {
			checkRatText(t, "ChanceToMeet before it", "0")(impl.ChanceToMeet(b, square, square-1))
			checkRatText(t, "MeanVisits before it", "0")(impl.MeanVisits(b, square, square-1))
		}
	}
	checkRatText(t, "MeanStays", "0")(impl.MeanStays(b, 0))
	checkRatText(t, "ChanceToMeet the end", "1")(impl.ChanceToMeet(b, 0, 9))
	checkSquareOrNone(t, "LongestSquare", 0)(impl.LongestSquare(b))
	checkSquareOrNone(t, "LikeliestMet", 1)(impl.LikeliestMet(b, 0))
	checkSquareOrNone(t, "LikeliestMet from 1", 2)(impl.LikeliestMet(b, 1))
	checkSquareOrNone(t, "LikeliestMet from 8", 0)(impl.LikeliestMet(b, 8))
	checkDropped(t, b, 0, nil)
	checkFails(t, "no jump", []call{made("MeanJumps")(impl.MeanJumps(b, 0, 0))})
	b = board(t, "9d8/0")
	checkRatText(t, "MeanThrows", "8")(impl.MeanThrows(b, 1))
	checkRatText(t, "MeanThrows from the start", "9")(impl.MeanThrows(b, 0))
	b = board(t, "1d1/0")
	checkSquareOrNone(t, "LongestSquare", 0)(impl.LongestSquare(b))
	checkSquareOrNone(t, "LikeliestMet", -1)(impl.LikeliestMet(b, 0))
	checkAdded(t, b, impl.Jump{}, nil)
}

func TestStaysAndJumps(t *testing.T) {
	// The snake from 1 leads back to the start, and 2 beyond the end back to 3:
	// both are throws behind which the token is where it was.
	b := board(t, "4d2/2;1>0;2>3")
	checkRatText(t, "MeanThrows", "4")(impl.MeanThrows(b, 0))
	checkRatText(t, "MeanStays", "2")(impl.MeanStays(b, 0))
	checkRatText(t, "MeanStays from 3", "1")(impl.MeanStays(b, 3))
	checkRatText(t, "MeanJumps of the snake", "1")(impl.MeanJumps(b, 0, 0))
	checkRatText(t, "MeanJumps of the ladder", "1")(impl.MeanJumps(b, 0, 1))
	checkRatText(t, "MeanJumps not reached", "0")(impl.MeanJumps(b, 3, 1))
	// A token that goes on to the square where a jump ends makes none.
	b = board(t, "4d2/0;1>2")
	checkRatText(t, "MeanJumps", "1/2")(impl.MeanJumps(b, 0, 0))
}

func TestSeveralSquaresAndJumpsAreEquallyGood(t *testing.T) {
	checkSquareOrNone(t, "LongestSquare", 0)(impl.LongestSquare(board(t, "2d2/0")))
	// Both the start and 2 need 3 throws, and then 2 needs more.
	checkSquareOrNone(t, "LongestSquare", 0)(impl.LongestSquare(board(t, "5d2/1;1>4;3>0")))
	checkSquareOrNone(t, "LongestSquare", 2)(impl.LongestSquare(board(t, "5d2/1;1>5;3>0")))
	checkSquareOrNone(t, "LikeliestMet", 2)(impl.LikeliestMet(board(t, "3d2/1"), 0))
	// To 2 lead two faces of three, and to 3 one, and half of those from 2.
	checkSquareOrNone(t, "LikeliestMet", 2)(impl.LikeliestMet(board(t, "4d3/0;1>2"), 0))
	// No square is left.
	checkSquareOrNone(t, "LikeliestMet", -1)(impl.LikeliestMet(board(t, "2d2/0;1>0"), 0))
	checkAdded(t, board(t, "2d2/0;1>0"), impl.Jump{}, nil)
	checkAdded(t, board(t, "3d1/0"), impl.Jump{From: 1, To: 3}, big.NewRat(1, 1))
	// From 1 and from 2 the ladder to the end helps as much.
	checkAdded(t, board(t, "3d2/1"), impl.Jump{From: 1, To: 3}, big.NewRat(3, 2))
	// No ladder that may be added is ever met.
	checkAdded(t, board(t, "5d2/1;1>5;2>5"), impl.Jump{From: 3, To: 4}, big.NewRat(1, 1))
	checkDropped(t, board(t, "5d2/1;1>5;2>5"), 1, big.NewRat(15, 8))
	// Without the jump from 1 the snakes from 2 and 3 leave no hope.
	checkDropped(t, board(t, "6d1/0;1>5;2>0;3>0"), 2, big.NewRat(2, 1))
	checkDropped(t, board(t, "4d1/0;1>3;2>0"), 2, big.NewRat(2, 1))
	checkDropped(t, board(t, "4d1/0;1>0"), 1, big.NewRat(4, 1))
	checkDropped(t, board(t, "4d2/0;1>0;2>0"), 2, big.NewRat(4, 1))
	// Without each one of both jumps the other one leaves no hope still.
	checkDropped(t, board(t, "4d1/0;1>0;2>0"), 0, nil)
}

func TestCompareMeans(t *testing.T) {
	for _, c := range []struct {
		a    string
		b    string
		want int
	}{
		{"2d2/0", "2d2/0", 0},
		{"2d2/0", "2d2/2", 0},
		{"2d2/0", "2d1/1", 0},
		{"2d2/1", "2d2/0", -1},
		{"1d8/0", "9d1/0", -1},
		{"8d8/0", "1d8/0", 0},
		{"9d8/0", "1d8/0", 1},
		// 9865 / 2304 and 39156 / 9145 differ by less than a 20000000th.
		{"9d4/1;1>0;8>7", "9d5/1;6>0", 1},
	} {
		a, b := board(t, c.a), board(t, c.b)
		got, ok := impl.CompareMeans(a, b)
		checkInt(t, "CompareMeans "+c.a+" "+c.b, got, ok, c.want)
		got, ok = impl.CompareMeans(b, a)
		checkInt(t, "CompareMeans "+c.b+" "+c.a, got, ok, -c.want)
	}
}

// checkMeansFrom holds all that is asked of a token from a square against the
// model.
func checkMeansFrom(t *testing.T, b impl.Board, from int) {
	t.Helper()
	checkRat(t, "MeanThrows", modelMeanThrows(b)[from])(impl.MeanThrows(b, from))
	checkRat(t, "MeanStays", modelStays(b)[from])(impl.MeanStays(b, from))
	for k := range b.Jumps {
		checkRat(t, "MeanJumps", modelMeanJumps(b, k)[from])(impl.MeanJumps(b, from, k))
	}
	for square := range b.Squares + 1 {
		if !modelHolds(b, square) {
			continue
		}
		checkRat(t, "ChanceToMeet", modelMeet(b, square)[from])(impl.ChanceToMeet(b, from, square))
		if square < b.Squares {
			checkRat(t, "MeanVisits", modelMeanVisits(b, square)[from])(impl.MeanVisits(b, from, square))
		}
	}
	has, ok := impl.HasMean(b, from)
	if !ok || has != modelHasMean(b, from) {
		t.Error("HasMean", from, has, ok)
	}
	likeliest := -1
	if has {
		likeliest = modelLikeliest(b, from)
	}
	checkSquareOrNone(t, "LikeliestMet", likeliest)(impl.LikeliestMet(b, from))
}

// checkMeansOf holds all that is asked of a board against the model.
func checkMeansOf(t *testing.T, b impl.Board) {
	t.Helper()
	checkSquareOrNone(t, "LongestSquare", modelLongest(b))(impl.LongestSquare(b))
	var means []*big.Rat
	for over := range 3 {
		with := b
		with.Over = over
		means = append(means, modelMeanThrows(with)[0])
	}
	checkMeansByOver(t, b, means...)
	ladder, mean := modelBestAdded(b)
	checkAdded(t, b, ladder, mean)
	from, mean := modelBestDropped(b)
	checkDropped(t, b, from, mean)
}

func TestMeansOfSmallBoardsAreAsTheModel(t *testing.T) {
	for _, b := range smallBoards() {
		for from := range b.Squares + 1 {
			if modelHolds(b, from) {
				checkMeansFrom(t, b, from)
			}
		}
		checkMeansOf(t, b)
		if t.Failed() {
			t.Fatal(b)
		}
	}
}

func TestMeansOfLargeBoardsAreAsTheModel(t *testing.T) {
	boards := meanBoards(150, 7)
	for i, b := range boards {
		for _, from := range []int{0, i % (b.Squares + 1)} {
			if modelHolds(b, from) {
				checkMeansFrom(t, b, from)
			}
		}
		checkMeansOf(t, b)
		mean, other := modelMeanThrows(b)[0], modelMeanThrows(boards[0])[0]
		got, ok := impl.CompareMeans(b, boards[0])
		if mean == nil || other == nil {
			checkFails(t, "no mean", []call{made("CompareMeans")(got, ok)})
		} else {
			checkInt(t, "CompareMeans", got, ok, mean.Cmp(other))
		}
		if t.Failed() {
			t.Fatal(b)
		}
	}
}

// rat returns a fraction that a call returned.
func rat(x int, y int, ok bool) *big.Rat {
	if !ok {
		return nil
	}
	return big.NewRat(int64(x), int64(y))
}

func TestMeansAreOneThrowAndTheMeanBehindIt(t *testing.T) {
	for _, b := range meanBoards(1500, 8) {
		for square := range b.Squares {
			mean := rat(impl.MeanThrows(b, square))
			if mean == nil {
				continue
			}
			behind, visits := new(big.Rat), new(big.Rat)
			for face := 1; face <= b.Faces; face++ {
				to, ok := impl.ThrowTo(b, square, face)
				next := rat(impl.MeanThrows(b, to))
				if !ok || next == nil {
					t.Fatal("no mean behind", b, square, face)
				}
				behind.Add(behind, next)
			}
			behind.Mul(behind, big.NewRat(1, int64(b.Faces)))
			if behind.Add(behind, big.NewRat(1, 1)).Cmp(mean) != 0 {
				t.Error("MeanThrows", b, square, mean, "want", behind)
			}
			for to := range b.Squares {
				if modelHolds(b, to) {
					visits.Add(visits, rat(impl.MeanVisits(b, square, to)))
				}
			}
			if visits.Cmp(mean) != 0 {
				t.Error("MeanVisits of all", b, square, visits, "want", mean)
			}
		}
	}
}
