package tests

import (
	"cmp"
	"math/big"
	"slices"
	"testing"

	"loop.example/g01306/impl"
)

// Promise 2: places have all lists of throws, and go on throw by throw.

// checkPart wants a fraction in lowest terms.
func checkPart(t *testing.T, what string, x int, y int, ok bool, wantX int, wantY int) {
	t.Helper()
	if !ok || x != wantX || y != wantY {
		t.Errorf("%s: got %d / %d, %v, want %d / %d", what, x, y, ok, wantX, wantY)
	}
}

// checkRatio wants a part of all lists, told by its numerator and denominator,
// in lowest terms.
func checkRatio(t *testing.T, what string, x int, y int, ok bool, lists *big.Int, all *big.Int) {
	t.Helper()
	want := new(big.Rat).SetFrac(lists, all)
	if !ok || big.NewInt(int64(x)).Cmp(want.Num()) != 0 || big.NewInt(int64(y)).Cmp(want.Denom()) != 0 {
		t.Errorf("%s: got %d / %d, %v, want %v", what, x, y, ok, want)
	}
}

func checkAhead(t *testing.T, what string, ahead int, same int, behind int, ok bool, want ...int) {
	t.Helper()
	if !ok || !slices.Equal([]int{ahead, same, behind}, want) {
		t.Errorf("%s: got %d, %d, %d, %v, want %v", what, ahead, same, behind, ok, want)
	}
}

func TestExampleOfChances(t *testing.T) {
	b := board(t, example)
	places, ok := impl.PlacesAfter(b, 0, 1)
	checkList(t, "PlacesAfter", places, ok, 0, 1, 1, 0, 0, 0, 0, 0, 1, 0, 0)
	x, y, ok := impl.PartDone(b, 0, 2)
	checkPart(t, "PartDone", x, y, ok, 1, 9)
	x, y, ok = impl.AverageAfter(b, 0, 1)
	checkPart(t, "AverageAfter", x, y, ok, 11, 3)
	x, y, ok = impl.PartMet(b, 0, 8, 2)
	checkPart(t, "PartMet", x, y, ok, 5, 9)
	table, ok := impl.DoneTable(b, 0, 2)
	checkList(t, "DoneTable", table, ok, 0, 0, 1)
	x, y, ok = impl.PartAt(b, 0, 8, 1)
	checkPart(t, "PartAt", x, y, ok, 1, 3)
	likeliest, ok := impl.LikeliestAt(b, 0, 1)
	checkList(t, "LikeliestAt", likeliest, ok, 1, 2, 8)
	x, y, ok = impl.SnakeBites(b, 8, 2)
	checkPart(t, "SnakeBites", x, y, ok, 4, 9)
	ahead, same, behind, ok := impl.AheadAfter(b, 0, 8, 1)
	checkAhead(t, "AheadAfter", ahead, same, behind, ok, 1, 2, 6)
}

func TestNoThrowsAtAll(t *testing.T) {
	b := board(t, example)
	for square := range b.Squares + 1 {
		if !modelHolds(b, square) {
			continue
		}
		only := make([]int, b.Squares+1)
		only[square] = 1
		places, ok := impl.PlacesAfter(b, square, 0)
		checkList(t, "PlacesAfter", places, ok, only...)
		likeliest, ok := impl.LikeliestAt(b, square, 0)
		checkList(t, "LikeliestAt", likeliest, ok, square)
		x, y, ok := impl.AverageAfter(b, square, 0)
		checkPart(t, "AverageAfter", x, y, ok, square, 1)
		x, y, ok = impl.SnakeBites(b, square, 0)
		checkPart(t, "SnakeBites", x, y, ok, 0, 1)
		done := square / b.Squares
		x, y, ok = impl.PartDone(b, square, 0)
		checkPart(t, "PartDone", x, y, ok, done, 1)
		x, y, ok = impl.PartDoneAt(b, square, 0)
		checkPart(t, "PartDoneAt", x, y, ok, done, 1)
		table, ok := impl.DoneTable(b, square, 0)
		checkList(t, "DoneTable", table, ok, done)
		for to, n := range only {
			if !modelHolds(b, to) {
				continue
			}
			x, y, ok = impl.PartAt(b, square, to, 0)
			checkPart(t, "PartAt", x, y, ok, n, 1)
			x, y, ok = impl.PartMet(b, square, to, 0)
			checkPart(t, "PartMet", x, y, ok, n, 1)
		}
	}
	ahead, same, behind, ok := impl.AheadAfter(b, 8, 0, 0)
	checkAhead(t, "AheadAfter from a greater square", ahead, same, behind, ok, 1, 0, 0)
	ahead, same, behind, ok = impl.AheadAfter(b, 8, 8, 0)
	checkAhead(t, "AheadAfter from one square", ahead, same, behind, ok, 0, 1, 0)
	ahead, same, behind, ok = impl.AheadAfter(b, 7, 8, 0)
	checkAhead(t, "AheadAfter from a lesser square", ahead, same, behind, ok, 0, 0, 1)
}

func TestChancesOfTokenAtTheEnd(t *testing.T) {
	for over := range 3 {
		b := board(t, example)
		b.Over = over
		places, ok := impl.PlacesAfter(b, 10, 3)
		checkList(t, "PlacesAfter", places, ok, 0, 0, 0, 0, 0, 0, 0, 0, 0, 0, 27)
		likeliest, ok := impl.LikeliestAt(b, 10, 20)
		checkList(t, "LikeliestAt", likeliest, ok, 10)
		x, y, ok := impl.AverageAfter(b, 10, 16)
		checkPart(t, "AverageAfter", x, y, ok, 10, 1)
		x, y, ok = impl.PartDone(b, 10, 20)
		checkPart(t, "PartDone", x, y, ok, 1, 1)
		x, y, ok = impl.PartDoneAt(b, 10, 0)
		checkPart(t, "PartDoneAt no throws", x, y, ok, 1, 1)
		x, y, ok = impl.PartDoneAt(b, 10, 1)
		checkPart(t, "PartDoneAt a throw", x, y, ok, 0, 1)
		x, y, ok = impl.PartDoneAt(b, 10, 20)
		checkPart(t, "PartDoneAt many throws", x, y, ok, 0, 1)
		x, y, ok = impl.PartMet(b, 10, 8, 20)
		checkPart(t, "PartMet another square", x, y, ok, 0, 1)
		x, y, ok = impl.PartMet(b, 10, 10, 20)
		checkPart(t, "PartMet the end", x, y, ok, 1, 1)
		x, y, ok = impl.SnakeBites(b, 10, 16)
		checkPart(t, "SnakeBites", x, y, ok, 0, 1)
		table, ok := impl.DoneTable(b, 10, 4)
		checkList(t, "DoneTable", table, ok, 1, 3, 9, 27, 81)
		half, ok := impl.HalfDone(b, 10)
		checkInt(t, "HalfDone", half, ok, 0)
		all, ok := impl.AllDone(b, 10)
		checkInt(t, "AllDone", all, ok, 0)
		ahead, same, behind, ok := impl.AheadAfter(b, 10, 10, 10)
		checkAhead(t, "AheadAfter", ahead, same, behind, ok, 0, 3486784401, 0)
	}
}

func TestPartsThatAreNoneOrAll(t *testing.T) {
	b := board(t, "4d2/1;1>0;2>0")
	for _, throws := range []int{1, 7, 20} {
		x, y, ok := impl.PartAt(b, 0, 0, throws)
		checkPart(t, "PartAt all", x, y, ok, 1, 1)
		x, y, ok = impl.PartAt(b, 0, 3, throws)
		checkPart(t, "PartAt none", x, y, ok, 0, 1)
		x, y, ok = impl.PartDone(b, 0, throws)
		checkPart(t, "PartDone none", x, y, ok, 0, 1)
		x, y, ok = impl.PartDoneAt(b, 0, throws)
		checkPart(t, "PartDoneAt none", x, y, ok, 0, 1)
		x, y, ok = impl.PartMet(b, 0, 3, throws)
		checkPart(t, "PartMet none", x, y, ok, 0, 1)
		x, y, ok = impl.PartMet(b, 0, 0, throws)
		checkPart(t, "PartMet all", x, y, ok, 1, 1)
		x, y, ok = impl.PartDone(b, 3, throws)
		checkPart(t, "PartDone all", x, y, ok, 1, 1)
	}
	x, y, ok := impl.SnakeBites(b, 0, 16)
	checkPart(t, "SnakeBites by each throw", x, y, ok, 16, 1)
	x, y, ok = impl.AverageAfter(b, 0, 16)
	checkPart(t, "AverageAfter none", x, y, ok, 0, 1)
	_, ok = impl.HalfDone(b, 0)
	_, fine := impl.AllDone(b, 0)
	if ok || fine {
		t.Error("HalfDone or AllDone without hope")
	}
}

func TestLimitsOfThrowsAreMet(t *testing.T) {
	// With 8 faces 20 throws have 2 to the power of 60 lists, each from the start.
	b := board(t, "1d8/2")
	b.Squares = 100
	b.Jumps = []impl.Jump{{From: 1, To: 0}, {From: 2, To: 0}, {From: 3, To: 0}, {From: 4, To: 0}, {From: 5, To: 0}, {From: 6, To: 0}, {From: 7, To: 0}, {From: 8, To: 0}}
	places, ok := impl.PlacesAfter(b, 0, 20)
	checkList(t, "PlacesAfter", places, ok, append([]int{1 << 60}, make([]int, 100)...)...)
	table, ok := impl.DoneTable(b, 100, 20)
	checkInt(t, "DoneTable", table[20], ok, 1<<60)
	ahead, same, behind, ok := impl.AheadAfter(b, 100, 0, 10)
	checkAhead(t, "AheadAfter", ahead, same, behind, ok, 1<<60, 0, 0)
	ahead, same, behind, ok = impl.AheadAfter(b, 0, 100, 10)
	checkAhead(t, "AheadAfter", ahead, same, behind, ok, 0, 0, 1<<60)
	x, y, ok := impl.AverageAfter(b, 100, 16)
	checkPart(t, "AverageAfter", x, y, ok, 100, 1)
	x, y, ok = impl.SnakeBites(b, 0, 16)
	checkPart(t, "SnakeBites", x, y, ok, 16, 1)
	// The greatest denominator that can be: just one list leads to the square 20.
	b = board(t, "100d8/0")
	x, y, ok = impl.PartAt(b, 0, 20, 20)
	checkPart(t, "PartAt", x, y, ok, 1, 1<<60)
	x, y, ok = impl.PartMet(b, 0, 20, 20)
	checkRatio(t, "PartMet", x, y, ok, modelListsMeeting(b, 20, 20)[0], big.NewInt(1<<60))
}

func TestHalfDoneAndAllDone(t *testing.T) {
	for _, c := range []struct {
		text string
		half int
		all  int
	}{
		{"20d1/0", 20, 20},
		{"21d1/0", -1, -1},
		{"1d1/2", 1, 1},
		{"2d2/1", 1, 2},
		{"2d2/0", 1, -1},
		{"3d2/1", 2, 3},
		{"20d2/1", 13, 20},
		{"21d2/1", 14, -1},
		{"30d2/1", 20, -1},
		{"31d2/1", -1, -1},
		{"1d8/0", 6, -1},
		{"1d8/1", 1, 1},
		{"4d4/2;1>0", 3, -1},
	} {
		b := board(t, c.text)
		half, ok := impl.HalfDone(b, 0)
		if ok != (c.half >= 0) || half != max(c.half, 0) {
			t.Error("HalfDone", c.text, half, ok, "want", c.half)
		}
		all, ok := impl.AllDone(b, 0)
		if ok != (c.all >= 0) || all != max(c.all, 0) {
			t.Error("AllDone", c.text, all, ok, "want", c.all)
		}
	}
}

func TestSnakeBitesCountsNoLadderAndNoStay(t *testing.T) {
	b := board(t, "4d8/2;1>0;2>3")
	// From 3 the faces 4 and 5 lead back to 1 and to the start; 6 and more stay.
	x, y, ok := impl.SnakeBites(b, 3, 1)
	checkPart(t, "SnakeBites from 3", x, y, ok, 1, 8)
	// From the start 1 and, back from the end, 7 lead to the snake.
	x, y, ok = impl.SnakeBites(b, 0, 1)
	checkPart(t, "SnakeBites from the start", x, y, ok, 1, 4)
	b.Over = 1
	x, y, ok = impl.SnakeBites(b, 3, 16)
	checkPart(t, "SnakeBites to the end at once", x, y, ok, 0, 1)
	b.Over = 0
	x, y, ok = impl.SnakeBites(b, 0, 1)
	checkPart(t, "SnakeBites that stay", x, y, ok, 1, 8)
}

func TestPlacesHaveAllListsAndGoOn(t *testing.T) {
	for _, b := range append(largeBoards(40, 4), board(t, example), board(t, "100d8/2"), board(t, manyFewest)) {
		before, ok := impl.PlacesAfter(b, 0, 0)
		table, fine := impl.DoneTable(b, 0, impl.MaxThrown)
		if !ok || !fine || len(table) != impl.MaxThrown+1 {
			t.Fatal("no places", b)
		}
		all := 1
		for throws := 1; throws <= impl.MaxThrown; throws++ {
			all *= b.Faces
			want := make([]int, b.Squares+1)
			for square, n := range before {
				for face := 1; face <= b.Faces && n > 0; face++ {
					to, ok := impl.ThrowTo(b, square, face)
					if !ok {
						t.Fatal("lists lead to a jump", b, square)
					}
					want[to] += n
				}
			}
			got, ok := impl.PlacesAfter(b, 0, throws)
			checkList(t, "PlacesAfter", got, ok, want...)
			sum := 0
			for _, n := range got {
				sum += n
			}
			if sum != all || got[b.Squares] != table[throws] {
				t.Error("lists", b, throws, sum, "of", all, "at the end", got[b.Squares], table[throws])
			}
			before = got
		}
	}
}

// checkTrips holds all that is asked of so many throws from a square against
// the trips of all lists.
func checkTrips(t *testing.T, b impl.Board, square int, throws int) {
	t.Helper()
	trips := modelTrips(b, square, throws)
	places, sum, bites, doneAt := make([]int, b.Squares+1), 0, 0, 0
	for _, trip := range trips {
		places[trip.end()]++
		sum += trip.end()
		bites += trip.bites
		if slices.Index(trip.path, b.Squares) == throws {
			doneAt++
		}
	}
	got, ok := impl.PlacesAfter(b, square, throws)
	checkList(t, "PlacesAfter", got, ok, places...)
	var likeliest []int
	for at, n := range places {
		if n == slices.Max(places) {
			likeliest = append(likeliest, at)
		}
	}
	got, ok = impl.LikeliestAt(b, square, throws)
	checkList(t, "LikeliestAt", got, ok, likeliest...)
	all := big.NewInt(int64(len(trips)))
	ratio := func(what string, lists int) func(x int, y int, ok bool) {
		return func(x int, y int, ok bool) {
			t.Helper()
			checkRatio(t, what, x, y, ok, big.NewInt(int64(lists)), all)
		}
	}
	ratio("AverageAfter", sum)(impl.AverageAfter(b, square, throws))
	ratio("SnakeBites", bites)(impl.SnakeBites(b, square, throws))
	ratio("PartDoneAt", doneAt)(impl.PartDoneAt(b, square, throws))
	ratio("PartDone", places[b.Squares])(impl.PartDone(b, square, throws))
	for to := range b.Squares + 1 {
		if !modelHolds(b, to) {
			continue
		}
		met := 0
		for _, trip := range trips {
			if slices.Contains(trip.path, to) {
				met++
			}
		}
		ratio("PartAt", places[to])(impl.PartAt(b, square, to, throws))
		ratio("PartMet", met)(impl.PartMet(b, square, to, throws))
		ahead, same, behind, ok := impl.AheadAfter(b, square, to, min(throws, 2))
		checkAhead(t, "AheadAfter", ahead, same, behind, ok, modelAhead(b, square, to, min(throws, 2))...)
	}
}

// modelAhead holds each list against each.
func modelAhead(b impl.Board, square int, other int, throws int) []int {
	counts := make([]int, 3)
	others := modelTrips(b, other, throws)
	for _, trip := range modelTrips(b, square, throws) {
		for _, to := range others {
			switch x, y := trip.end(), to.end(); {
			case x > y:
				counts[0]++
			case x == y:
				counts[1]++
			default:
				counts[2]++
			}
		}
	}
	return counts
}

func TestChancesOfSmallBoardsAreAsTheModel(t *testing.T) {
	for i, b := range smallBoards() {
		for square := range b.Squares + 1 {
			if modelHolds(b, square) {
				checkTrips(t, b, square, (i+square)%4)
			}
		}
		if t.Failed() {
			t.Fatal(b)
		}
	}
}

// checkMany holds what is asked of many throws against the model.
func checkMany(t *testing.T, b impl.Board, square int, to int, throws int) {
	t.Helper()
	all := modelPower(b.Faces, throws)
	x, y, ok := impl.PartAt(b, square, to, throws)
	checkRatio(t, "PartAt", x, y, ok, modelListsTo(b, to, throws)[square], all)
	x, y, ok = impl.PartMet(b, square, to, throws)
	checkRatio(t, "PartMet", x, y, ok, modelListsMeeting(b, to, throws)[square], all)
	done := modelListsTo(b, b.Squares, throws)[square]
	x, y, ok = impl.PartDone(b, square, throws)
	checkRatio(t, "PartDone", x, y, ok, done, all)
	if throws > 0 {
		before := modelListsTo(b, b.Squares, throws-1)[square]
		before.Mul(before, big.NewInt(int64(b.Faces)))
		x, y, ok = impl.PartDoneAt(b, square, throws)
		checkRatio(t, "PartDoneAt", x, y, ok, new(big.Int).Sub(done, before), all)
	}
	few := min(throws, 16)
	all = modelPower(b.Faces, few)
	x, y, ok = impl.AverageAfter(b, square, few)
	checkRatio(t, "AverageAfter", x, y, ok, modelSquaresSum(b, few)[square], all)
	x, y, ok = impl.SnakeBites(b, square, few)
	checkRatio(t, "SnakeBites", x, y, ok, modelBites(b, few)[square], all)
}

// checkDone holds the numbers of throws that half and all lists need against
// the model.
func checkDone(t *testing.T, b impl.Board, square int) {
	t.Helper()
	half, whole := -1, -1
	for throws := impl.MaxThrown; throws >= 0; throws-- {
		lists, all := modelListsTo(b, b.Squares, throws)[square], modelPower(b.Faces, throws)
		if new(big.Int).Add(lists, lists).Cmp(all) >= 0 {
			half = throws
		}
		if lists.Cmp(all) == 0 {
			whole = throws
		}
	}
	got, ok := impl.HalfDone(b, square)
	if ok != (half >= 0) || got != max(half, 0) {
		t.Error("HalfDone", b, square, got, ok, "want", half)
	}
	got, ok = impl.AllDone(b, square)
	if ok != (whole >= 0) || got != max(whole, 0) {
		t.Error("AllDone", b, square, got, ok, "want", whole)
	}
}

func TestChancesOfLargeBoardsAreAsTheModel(t *testing.T) {
	for i, b := range largeBoards(150, 5) {
		squares := []int{0}
		for square := 1; square <= b.Squares; square += 1 + b.Squares/5 {
			if modelHolds(b, square) {
				squares = append(squares, square)
			}
		}
		for k, square := range squares {
			checkMany(t, b, square, squares[(k+i)%len(squares)], (7*i+k)%(impl.MaxThrown+1))
		}
		checkDone(t, b, squares[len(squares)-1])
		if t.Failed() {
			t.Fatal(b)
		}
	}
}

func TestAheadAfterOfLargeBoardsIsByPlaces(t *testing.T) {
	for i, b := range largeBoards(80, 6) {
		other, throws := b.Squares/2, i%11
		if !modelHolds(b, other) {
			other = b.Squares
		}
		want := make([]int, 3)
		first, second := make([]int, b.Squares+1), make([]int, b.Squares+1)
		for to := range b.Squares + 1 {
			lists := modelListsTo(b, to, throws)
			first[to], second[to] = int(lists[0].Int64()), int(lists[other].Int64())
		}
		for x, n := range first {
			for y, m := range second {
				want[1-cmp.Compare(x, y)] += n * m
			}
		}
		ahead, same, behind, ok := impl.AheadAfter(b, 0, other, throws)
		checkAhead(t, "AheadAfter", ahead, same, behind, ok, want...)
		behind, same, ahead, ok = impl.AheadAfter(b, other, 0, throws)
		checkAhead(t, "AheadAfter the other way", ahead, same, behind, ok, want...)
	}
}
