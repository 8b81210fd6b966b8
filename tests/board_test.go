package tests

import (
	"math/big"
	"slices"
	"strconv"
	"strings"
	"testing"

	"loop.example/g01306/impl"
)

// Promise 1: tokens go by throws one after the other, and fewest throws lead to the end.

// example is the board of the example of chapter 1.
const example = "10d3/0;3>8;9>2"

// manyFewest is a board with very many lists of fewest throws.
const manyFewest = "100d4/1;5>8;13>16;17>20;18>20;21>24;25>28;33>36;34>36;37>40;44>43;45>47;48>51;52>55;56>59;57>59;64>67;68>71;80>83;88>91;92>95"

func checkInt(t *testing.T, what string, got int, ok bool, want int) {
	t.Helper()
	if !ok || got != want {
		t.Errorf("%s: got %d, %v, want %d", what, got, ok, want)
	}
}

func checkList[T comparable](t *testing.T, what string, got []T, ok bool, want ...T) {
	t.Helper()
	if !ok || !slices.Equal(got, want) {
		t.Errorf("%s: got %v, %v, want %v", what, got, ok, want)
	}
}

func checkBoard(t *testing.T, what string, got impl.Board, ok bool, want string) {
	t.Helper()
	text, fine := impl.BoardText(got)
	if !ok || !fine || text != want {
		t.Errorf("%s: got %+v, %v, want %s", what, got, ok, want)
	}
}

func TestExampleOfBoards(t *testing.T) {
	b := board(t, example)
	fewest, ok := impl.FewestThrows(b, 0)
	checkInt(t, "FewestThrows", fewest, ok, 2)
	first, ok := impl.FirstThrows(b, 0)
	checkList(t, "FirstThrows", first, ok, 3, 2)
	count, ok := impl.CountFewest(b, 0)
	checkInt(t, "CountFewest", count, ok, 1)
	at, ok := impl.ThrowTo(b, 0, 3)
	checkInt(t, "ThrowTo", at, ok, 8)
	at, ok = impl.PlayThrows(b, 0, []int{3, 1, 2, 3})
	checkInt(t, "PlayThrows", at, ok, 7)
	path, ok := impl.PathOfThrows(b, 0, []int{3, 3, 1, 2, 3, 2, 3, 1})
	checkList(t, "PathOfThrows", path, ok, 0, 8, 8, 2, 4, 7, 2, 5, 6)
	reached, ok := impl.ReachedFrom(b, 7)
	checkList(t, "ReachedFrom", reached, ok, 2, 4, 5, 6, 7, 8, 10)
	hopeless, ok := impl.HopelessSquares(b)
	checkList(t, "HopelessSquares", hopeless, ok)
	faces, ok := impl.FacesTo(b, 8, 8)
	checkInt(t, "FacesTo", faces, ok, 1)
	snakes, ok := impl.SnakesOf(b)
	checkList(t, "SnakesOf", snakes, ok, impl.Jump{From: 9, To: 2})
	ladders, ok := impl.LaddersOf(b)
	checkList(t, "LaddersOf", ladders, ok, impl.Jump{From: 3, To: 8})
}

func TestThreeWaysBeyondTheEnd(t *testing.T) {
	for over, want := range [][]int{{2, 10, 8}, {2, 10, 10}, {2, 10, 2}} {
		b := board(t, "10d3/"+strconv.Itoa(over)+";3>8;9>2")
		got, ok := impl.LandingsOf(b, 8)
		checkList(t, "LandingsOf 8", got, ok, want...)
	}
	for over, want := range [][]int{{1, 0, 0, 0}, {1, 1, 1, 1}, {1, 0, 0, 0}} {
		b := board(t, "1d4/"+strconv.Itoa(over))
		got, ok := impl.LandingsOf(b, 0)
		checkList(t, "LandingsOf the start of one square", got, ok, want...)
	}
	for over, want := range [][]int{{2, 3, 1, 1, 1, 1}, {2, 3, 3, 3, 3, 3}, {2, 3, 2, 1, 0, 1}} {
		b := board(t, "3d6/"+strconv.Itoa(over))
		got, ok := impl.LandingsOf(b, 1)
		checkList(t, "LandingsOf 1 of three squares", got, ok, want...)
	}
}

func TestTokenThatStaysMakesNoJump(t *testing.T) {
	// By 6 the token would be back on 1, where a snake begins; by 8 beyond the start.
	b := board(t, "4d8/2;1>0")
	got, ok := impl.LandingsOf(b, 3)
	checkList(t, "LandingsOf 3", got, ok, 4, 3, 2, 0, 0, 3, 3, 3)
}

func TestTokenOnTheEndStays(t *testing.T) {
	for over := range 3 {
		b := board(t, "10d3/"+strconv.Itoa(over)+";3>8;9>2")
		landings, ok := impl.LandingsOf(b, 10)
		checkList(t, "LandingsOf the end", landings, ok, 10, 10, 10)
		path, ok := impl.PathOfThrows(b, 8, []int{2, 1, 3})
		checkList(t, "PathOfThrows over the end", path, ok, 8, 10, 10, 10)
		fewest, ok := impl.FewestThrows(b, 10)
		checkInt(t, "FewestThrows from the end", fewest, ok, 0)
		first, ok := impl.FirstThrows(b, 10)
		checkList(t, "FirstThrows from the end", first, ok)
		count, ok := impl.CountFewest(b, 10)
		checkInt(t, "CountFewest from the end", count, ok, 1)
		reached, ok := impl.ReachedFrom(b, 10)
		checkList(t, "ReachedFrom the end", reached, ok, 10)
		faces, ok := impl.FacesTo(b, 10, 10)
		checkInt(t, "FacesTo from the end to it", faces, ok, 3)
	}
}

func TestBoardOfOneSquare(t *testing.T) {
	b, ok := impl.PlainBoard(1, 1, 0)
	checkBoard(t, "PlainBoard", b, ok, "1d1/0")
	first, ok := impl.FirstThrows(b, 0)
	checkList(t, "FirstThrows", first, ok, 1)
	count, ok := impl.CountFewest(board(t, "1d8/1"), 0)
	checkInt(t, "CountFewest with Over 1", count, ok, 8)
	reached, ok := impl.ReachedFrom(b, 0)
	checkList(t, "ReachedFrom", reached, ok, 0, 1)
	hopeless, ok := impl.HopelessSquares(b)
	checkList(t, "HopelessSquares", hopeless, ok)
	if _, _, ok := impl.BestLadder(b); ok {
		t.Error("a ladder on one square")
	}
	for _, j := range []impl.Jump{{From: 0, To: 1}, {From: 1, To: 0}} {
		if _, ok := impl.AddJump(b, j); ok {
			t.Error("a jump on one square", j)
		}
	}
}

func TestJumpsBackToTheStart(t *testing.T) {
	b := board(t, "6d2/0;1>0;2>0;4>6")
	hopeless, ok := impl.HopelessSquares(b)
	checkList(t, "HopelessSquares", hopeless, ok, 0)
	reached, ok := impl.ReachedFrom(b, 0)
	checkList(t, "ReachedFrom", reached, ok, 0)
	if n, ok := impl.FewestThrows(b, 0); ok || n != 0 {
		t.Error("FewestThrows without hope", n, ok)
	}
	if l, ok := impl.FirstThrows(b, 0); ok || len(l) != 0 {
		t.Error("FirstThrows without hope", l, ok)
	}
	count, ok := impl.CountFewest(b, 0)
	checkInt(t, "CountFewest without hope", count, ok, 0)
	hopeless, ok = impl.HopelessSquares(board(t, "5d1/2;4>1"))
	checkList(t, "HopelessSquares before a snake", hopeless, ok, 0, 1, 2, 3)
}

func TestFewestThrowsWithKnownCounts(t *testing.T) {
	for _, c := range []struct {
		board  string
		square int
		fewest int
		count  int
	}{
		{"100d8/0", 0, 13, 1820}, // 4 less than 13 times 8: so many lists of 13 parts of 4
		{"100d8/1", 0, 13, 2380}, // with 0 up to 4 of the 4 used
		{"100d1/0", 0, 100, 1},
		{"100d1/0", 99, 1, 1},
		{"12d6/0", 0, 2, 1},
		{"11d6/1", 0, 2, 3},
		{"7d6/2", 0, 2, 6},
		{"9d2/0;1>5;2>5", 0, 3, 2}, // both faces lead to 5
		{manyFewest, 0, 26, 1108322980548},
	} {
		b := board(t, c.board)
		fewest, ok := impl.FewestThrows(b, c.square)
		checkInt(t, "FewestThrows "+c.board, fewest, ok, c.fewest)
		count, ok := impl.CountFewest(b, c.square)
		checkInt(t, "CountFewest "+c.board, count, ok, c.count)
	}
}

func TestFirstThrowsAreLexicographicallyFirst(t *testing.T) {
	for _, c := range []struct {
		board string
		want  []int
	}{
		{"7d6/0", []int{1, 6}},
		{"100d8/0", []int{4, 8, 8, 8, 8, 8, 8, 8, 8, 8, 8, 8, 8}},
		{"11d6/1", []int{5, 6}},
		{"9d3/0;2>0;5>8", []int{3, 2, 1}},
	} {
		got, ok := impl.FirstThrows(board(t, c.board), 0)
		checkList(t, "FirstThrows "+c.board, got, ok, c.want...)
	}
}

func TestThrowsUpToMaxThrows(t *testing.T) {
	b := board(t, "5d1/0;4>1")
	throws := slices.Repeat([]int{1}, impl.MaxThrows)
	at, ok := impl.PlayThrows(b, 0, throws)
	checkInt(t, "PlayThrows of 200", at, ok, 2)
	path, ok := impl.PathOfThrows(b, 0, throws)
	if !ok || len(path) != 201 {
		t.Error("PathOfThrows of 200", len(path), ok)
	}
	at, ok = impl.PlayThrows(b, 3, nil)
	checkInt(t, "PlayThrows of none", at, ok, 3)
	path, ok = impl.PathOfThrows(b, 3, nil)
	checkList(t, "PathOfThrows of none", path, ok, 3)
}

func TestJumpsPutInTakenOutAndTurned(t *testing.T) {
	b := board(t, example)
	with, ok := impl.AddJump(b, impl.Jump{From: 5, To: 0})
	checkBoard(t, "AddJump", with, ok, "10d3/0;3>8;5>0;9>2")
	with, ok = impl.AddJump(b, impl.Jump{From: 1, To: 10})
	checkBoard(t, "AddJump before the others", with, ok, "10d3/0;1>10;3>8;9>2")
	with, ok = impl.AddJump(b, impl.Jump{From: 6, To: 8})
	checkBoard(t, "AddJump to the same square", with, ok, "10d3/0;3>8;6>8;9>2")
	for _, j := range []impl.Jump{
		{From: 3, To: 5}, {From: 4, To: 4}, {From: 4, To: 3}, {From: 2, To: 5}, {From: 8, To: 5},
		{From: 0, To: 5}, {From: 10, To: 5}, {From: -1, To: 5}, {From: 4, To: 11}, {From: 4, To: -1},
	} {
		if got, ok := impl.AddJump(b, j); ok || len(got.Jumps) != 0 || got.Squares != 0 {
			t.Error("AddJump", j, "gives", got)
		}
	}
	without, ok := impl.DropJump(b, 3)
	checkBoard(t, "DropJump", without, ok, "10d3/0;9>2")
	if _, ok := impl.DropJump(b, 8); ok {
		t.Error("DropJump where a jump only ends")
	}
	turned, ok := impl.TurnJumps(b)
	checkBoard(t, "TurnJumps", turned, ok, "10d3/0;2>9;8>3")
	turned, ok = impl.TurnJumps(board(t, "10d3/2"))
	checkBoard(t, "TurnJumps of none", turned, ok, "10d3/2")
	for _, s := range []string{"10d3/0;3>0", "10d3/0;3>10", "10d3/0;3>8;4>8"} {
		if _, ok := impl.TurnJumps(board(t, s)); ok {
			t.Error("TurnJumps", s)
		}
	}
}

func TestBestLadder(t *testing.T) {
	for _, c := range []struct {
		board  string
		best   impl.Jump
		throws int
		ok     bool
	}{
		{"10d3/0", impl.Jump{From: 1, To: 10}, 1, true},
		{example, impl.Jump{From: 1, To: 10}, 1, true},
		{"3d3/0", impl.Jump{From: 1, To: 2}, 1, true},
		{"2d1/0", impl.Jump{From: 1, To: 2}, 1, true},
		{"10d2/0;1>5;2>7", impl.Jump{From: 6, To: 10}, 2, true},
		{"8d1/0;1>0;2>0", impl.Jump{}, 0, false},
		{"2d1/0;1>0", impl.Jump{}, 0, false},
		{"3d1/0;1>2", impl.Jump{}, 0, false},
		{"3d1/0;2>1", impl.Jump{}, 0, false},
	} {
		best, throws, ok := impl.BestLadder(board(t, c.board))
		if best != c.best || throws != c.throws || ok != c.ok {
			t.Error("BestLadder", c.board, best, throws, ok)
		}
	}
}

func TestNumbersOfJumpsUpToMaxJumps(t *testing.T) {
	b := impl.Board{Squares: 100, Faces: 8}
	for from := 1; from < impl.MaxJumps; from++ {
		b.Jumps = append(b.Jumps, impl.Jump{From: from, To: 0})
	}
	if best, _, ok := impl.BestLadder(b); ok {
		t.Error("BestLadder where the start has no way", best)
	}
	b.Jumps[0].To = 99
	best, throws, ok := impl.BestLadder(b)
	if best != (impl.Jump{From: 20, To: 21}) || throws != 2 || !ok {
		t.Error("BestLadder of 19 jumps", best, throws, ok)
	}
	full, ok := impl.AddJump(b, impl.Jump{From: 20, To: 0})
	if !ok || len(full.Jumps) != 20 || !impl.IsBoard(full) {
		t.Error("AddJump up to MaxJumps", full, ok)
	}
	if _, ok := impl.AddJump(full, impl.Jump{From: 21, To: 0}); ok {
		t.Error("AddJump beyond MaxJumps")
	}
	if _, _, ok := impl.BestLadder(full); ok {
		t.Error("BestLadder beyond MaxJumps")
	}
	text, ok := impl.BoardText(full)
	if again, fine := impl.ParseBoard(text); !ok || !fine || len(again.Jumps) != 20 {
		t.Error("ParseBoard of MaxJumps", text)
	}
	if _, ok := impl.ParseBoard(text + ";21>0"); ok {
		t.Error("ParseBoard beyond MaxJumps")
	}
	full.Jumps = append(full.Jumps, impl.Jump{From: 21, To: 0})
	if impl.IsBoard(full) {
		t.Error("IsBoard beyond MaxJumps")
	}
}

func TestIsBoardOfAllSmallNumbers(t *testing.T) {
	lists := jumpLists(4)
	lists = append(lists, []impl.Jump{{From: -1, To: 2}}, []impl.Jump{{From: 1, To: -1}}, []impl.Jump{{From: 1, To: 0}, {From: 2, To: 0}, {From: 3, To: 0}})
	for squares := -1; squares <= 4; squares++ {
		for faces := 0; faces <= 2; faces++ {
			for over := -1; over <= 3; over++ {
				for _, jumps := range lists {
					b := impl.Board{Squares: squares, Faces: faces, Over: over, Jumps: jumps}
					if impl.IsBoard(b) != modelIsBoard(b) {
						t.Fatal("IsBoard", b, impl.IsBoard(b))
					}
				}
			}
		}
	}
}

func TestPlainBoardHasItsLimits(t *testing.T) {
	for _, squares := range []int{-1, 0, 1, 2, 99, 100, 101} {
		for _, faces := range []int{-1, 0, 1, 7, 8, 9} {
			for over := -1; over <= 3; over++ {
				b, ok := impl.PlainBoard(squares, faces, over)
				want := squares >= 1 && squares <= 100 && faces >= 1 && faces <= 8 && over >= 0 && over <= 2
				if ok != want || ok && (b.Squares != squares || b.Faces != faces || b.Over != over || len(b.Jumps) != 0) {
					t.Error("PlainBoard", squares, faces, over, b, ok)
				}
			}
		}
	}
}

// checkSquare holds all that is asked of one square against the model.
func checkSquare(t *testing.T, b impl.Board, square int) {
	t.Helper()
	name, _ := impl.BoardText(b)
	name += " from " + strconv.Itoa(square)
	var landings, counts []int
	for face := 1; face <= b.Faces; face++ {
		want := modelLanding(b, square, face)
		landings = append(landings, want)
		got, ok := impl.ThrowTo(b, square, face)
		checkInt(t, "ThrowTo "+name, got, ok, want)
	}
	got, ok := impl.LandingsOf(b, square)
	checkList(t, "LandingsOf "+name, got, ok, landings...)
	for to := 0; to <= b.Squares; to++ {
		n, ok := impl.FacesTo(b, square, to)
		if ok != modelHolds(b, to) {
			t.Error("FacesTo", name, to, ok)
		}
		counts = append(counts, n)
	}
	for _, to := range landings {
		counts[to]--
	}
	if slices.Min(counts) != 0 || slices.Max(counts) != 0 {
		t.Error("FacesTo", name, "not the landings:", counts)
	}
	reached, ok := impl.ReachedFrom(b, square)
	checkList(t, "ReachedFrom "+name, reached, ok, modelReached(b, square)...)
	checkFewest(t, name, b, square)
}

// checkFewest holds the fewest throws against the model, and plays the first ones.
func checkFewest(t *testing.T, name string, b impl.Board, square int) {
	t.Helper()
	want := modelFewest(b, square)
	fewest, ok := impl.FewestThrows(b, square)
	if ok != (want >= 0) || fewest != max(want, 0) {
		t.Error("FewestThrows", name, fewest, ok, "want", want)
	}
	first, ok := impl.FirstThrows(b, square)
	count, counted := impl.CountFewest(b, square)
	if want < 0 {
		if ok || len(first) != 0 || count != 0 || !counted {
			t.Error("throws without hope", name, first, count, counted)
		}
		return
	}
	if end, fine := impl.PlayThrows(b, square, first); !ok || !fine || end != b.Squares || len(first) != want {
		t.Error("FirstThrows", name, first, "lead to", end)
	}
	ways := modelWays(b, want)[square]
	if ways.Cmp(big.NewInt(1000000000000000)) > 0 {
		ways.SetInt64(0)
	}
	if counted != (ways.Sign() > 0) || ways.Cmp(big.NewInt(int64(count))) != 0 {
		t.Error("CountFewest", name, count, counted, "want", ways)
	}
	if want <= 5 && b.Faces <= 3 {
		list, n := modelListsToEnd(b, square, want)
		checkList(t, "FirstThrows "+name, first, ok, list...)
		checkInt(t, "CountFewest "+name, count, counted, n)
	}
	checkNoFirstBefore(t, name, b, square, first)
}

// checkNoFirstBefore takes each throw of a list for a lesser one: then the end
// is too far away for the throws that are left.
func checkNoFirstBefore(t *testing.T, name string, b impl.Board, square int, first []int) {
	t.Helper()
	for i, face := range first {
		for lesser := 1; lesser < face; lesser++ {
			left := len(first) - i - 1
			if n := modelFewest(b, modelLanding(b, square, lesser)); n >= 0 && n <= left {
				t.Error("FirstThrows", name, first, "but", lesser, "instead of throw", i)
			}
		}
		square = modelLanding(b, square, face)
	}
}

// checkWhole holds all that is asked of a whole board against the model.
func checkWhole(t *testing.T, b impl.Board) {
	t.Helper()
	text, ok := impl.BoardText(b)
	if !ok || !impl.IsBoard(b) {
		t.Fatal("no board", b)
	}
	again, ok := impl.ParseBoard(text)
	checkBoard(t, "ParseBoard", again, ok, text)
	if model, _ := modelParse(text); !slices.Equal(model.Jumps, b.Jumps) {
		t.Error("BoardText", b, "gives", text)
	}
	var hopeless []int
	for square := range b.Squares + 1 {
		if modelHolds(b, square) && modelFewest(b, square) < 0 {
			hopeless = append(hopeless, square)
		}
	}
	got, ok := impl.HopelessSquares(b)
	checkList(t, "HopelessSquares "+text, got, ok, hopeless...)
	checkJumps(t, text, b)
}

// checkJumps holds the jumps of a board, without one and turned, against the model.
func checkJumps(t *testing.T, text string, b impl.Board) {
	t.Helper()
	var snakes, ladders, turned []impl.Jump
	for i, j := range b.Jumps {
		if j.To < j.From {
			snakes = append(snakes, j)
		} else {
			ladders = append(ladders, j)
		}
		turned = append(turned, impl.Jump{From: j.To, To: j.From})
		without, ok := impl.DropJump(b, j.From)
		checkList(t, "DropJump "+text, without.Jumps, ok, slices.Delete(slices.Clone(b.Jumps), i, i+1)...)
		with, ok := impl.AddJump(without, j)
		checkBoard(t, "AddJump of the dropped one", with, ok, text)
	}
	got, ok := impl.SnakesOf(b)
	checkList(t, "SnakesOf "+text, got, ok, snakes...)
	got, ok = impl.LaddersOf(b)
	checkList(t, "LaddersOf "+text, got, ok, ladders...)
	slices.SortFunc(turned, func(j impl.Jump, k impl.Jump) int { return j.From - k.From })
	want := b
	want.Jumps = turned
	back, ok := impl.TurnJumps(b)
	if ok != modelIsBoard(want) || ok && (!slices.Equal(back.Jumps, turned) || back.Squares != b.Squares || back.Faces != b.Faces || back.Over != b.Over) {
		t.Error("TurnJumps", text, back, ok)
	}
}

func TestAllSmallBoardsAreAsTheModel(t *testing.T) {
	for _, b := range smallBoards() {
		checkWhole(t, b)
		for square := range b.Squares + 1 {
			if modelHolds(b, square) {
				checkSquare(t, b, square)
			}
		}
		best, throws, ok := impl.BestLadder(b)
		wantBest, wantThrows, wantOk := modelBestLadder(b)
		if best != wantBest || throws != wantThrows || ok != wantOk {
			t.Error("BestLadder", b, best, throws, ok)
		}
		if t.Failed() {
			t.FailNow()
		}
	}
}

func TestManyFewestThrowsAreAsTheModel(t *testing.T) {
	b := board(t, manyFewest)
	checkSquare(t, b, 0)
	for over := range 3 {
		b.Over = over
		checkFewest(t, manyFewest, b, 0)
	}
}

func TestLargeBoardsAreAsTheModel(t *testing.T) {
	for _, b := range largeBoards(120, 1) {
		checkWhole(t, b)
		for square := 0; square <= b.Squares; square += 1 + b.Squares/4 {
			if modelHolds(b, square) {
				checkSquare(t, b, square)
			}
		}
	}
}

func TestBestLadderOfLargeBoardsIsAsTheModel(t *testing.T) {
	for _, b := range largeBoards(200, 2) {
		if b.Squares > 40 {
			continue
		}
		best, throws, ok := impl.BestLadder(b)
		wantBest, wantThrows, wantOk := modelBestLadder(b)
		if best != wantBest || throws != wantThrows || ok != wantOk {
			t.Error("BestLadder", b, best, throws, ok, "want", wantBest, wantThrows, wantOk)
		}
	}
}

func TestPlaysAreThrowsOneAfterTheOther(t *testing.T) {
	for n, b := range largeBoards(60, 3) {
		throws := make([]int, impl.MaxThrows)
		path := []int{0}
		for i := range throws {
			throws[i] = (i*i+n)%b.Faces + 1
			path = append(path, modelLanding(b, path[i], throws[i]))
		}
		got, ok := impl.PathOfThrows(b, 0, throws)
		checkList(t, "PathOfThrows", got, ok, path...)
		half, ok := impl.PlayThrows(b, 0, throws[:100])
		checkInt(t, "PlayThrows of half", half, ok, path[100])
		end, ok := impl.PlayThrows(b, half, throws[100:])
		checkInt(t, "PlayThrows of the other half", end, ok, path[200])
	}
}

func TestTextsThatAreNone(t *testing.T) {
	for _, s := range []string{
		"", "d", "/", ";", "10", "10d3", "10d3/", "d3/0", "10d/0", "10/3d0", "0d3/0", "101d3/0", "10d0/0", "10d9/0", "10d3/3",
		"010d3/0", "10d03/0", "10d3/00", "+10d3/0", "10d+3/0", "10d3/-0", "10d3/+0", " 10d3/0", "10d3/0 ", "10D3/0", "10d3/0\n",
		"10d3/0;", ";10d3/0", "10d3/0;3", "10d3/0;3>", "10d3/0;>8", "10d3/0;3<8", "10d3/0;03>8", "10d3/0;3>08", "10d3/0;3>8;",
		"10d3/0;;3>8", "10d3/0;9>2;3>8", "10d3/0;3>8;3>7", "10d3/0;3>3", "10d3/0;3>9;9>2", "10d3/0;0>8", "10d3/0;10>8",
		"10d3/0;3>11", "10d3/0;3>-1", "10d3/0;3>8>9", "10d3/0,3>8", "99999999999999999999d3/0", "10d3/0;18446744073709551619>8",
		"1_0d3/0", "0x5d3/0", "1e1d3/0", "١d3/0", "10d3/0;3>8\x00",
	} {
		if b, ok := impl.ParseBoard(s); ok || b.Squares != 0 || len(b.Jumps) != 0 {
			t.Errorf("ParseBoard %q gives %v, %v", s, b, ok)
		}
	}
}

func TestChangedTextsAreAsTheModel(t *testing.T) {
	marks := "0123456789d/;>+- ,\n"
	for _, s := range []string{example, "1d1/0", "100d8/2", "5d2/1;1>0;2>5", "20d6/2;19>0"} {
		var changed []string
		for i := 0; i <= len(s); i++ {
			for _, mark := range strings.Split(marks, "") {
				changed = append(changed, s[:i]+mark+s[i:])
				if i < len(s) {
					changed = append(changed, s[:i]+mark+s[i+1:], s[:i]+s[i+1:], s[:i])
				}
			}
		}
		for _, c := range changed {
			got, ok := impl.ParseBoard(c)
			want, fine := modelParse(c)
			if ok != fine || got.Squares != want.Squares || got.Faces != want.Faces || got.Over != want.Over || !slices.Equal(got.Jumps, want.Jumps) {
				t.Fatalf("ParseBoard %q gives %v, %v", c, got, ok)
			}
		}
	}
}
