package tests

import (
	"math/big"
	"reflect"
	"slices"
	"strconv"
	"strings"
	"testing"
	"testing/synctest"

	"loop.example/g01306/impl"
)

// Promise 4: races go throw by throw, and shortest ways to win are won.

func checkRace(t *testing.T, what string, want string, wantWho int) func(r impl.Race, who int, ok bool) {
	return func(r impl.Race, who int, ok bool) {
		t.Helper()
		text, fine := impl.RaceText(r)
		if !ok || !fine || text != want || who != wantWho {
			t.Errorf("%s: got %+v, %d, %v, want %s, %d", what, r, who, ok, want, wantWho)
		}
	}
}

// checkBy wants where throws lead both tokens, who has won by them, and how
// often both have been sent back.
func checkBy(t *testing.T, text string, throws []int, first int, other int, won int, sent ...int) {
	t.Helper()
	r := race(t, text)
	board, _, _ := strings.Cut(text, "@")
	want := board + "@" + strconv.Itoa(r.Meet) + ":" + strconv.Itoa(first) + ":" + strconv.Itoa(other)
	checkRace(t, "RaceBy "+text, want, won)(impl.RaceBy(r, throws))
	checkNumberOrNone(t, "WinnerOf "+text, won, won != 0)(impl.WinnerOf(r, throws))
	got, ok := impl.SentBack(r, throws)
	checkList(t, "SentBack "+text, got, ok, sent...)
}

// checkNumberOrNone wants a number, or that a call fails.
func checkNumberOrNone(t *testing.T, what string, want int, wanted bool) func(n int, ok bool) {
	return func(n int, ok bool) {
		t.Helper()
		if n != want || ok != wanted {
			t.Errorf("%s: got %d, %v, want %d, %v", what, n, ok, want, wanted)
		}
	}
}

// checkWin wants the first list of the fewest throws by which who wins, or that
// there is none.
func checkWin(t *testing.T, r impl.Race, who int, want []int, wanted bool) {
	t.Helper()
	throws, ok := impl.FirstWin(r, who)
	if !slices.Equal(throws, want) || ok != wanted {
		t.Errorf("FirstWin of %d: got %v, %v, want %v, %v", who, throws, ok, want, wanted)
	}
	checkNumberOrNone(t, "ShortestWin", len(want), wanted)(impl.ShortestWin(r, who))
	if can, ok := impl.CanWin(r, who); can != wanted || !ok {
		t.Errorf("CanWin of %d: got %v, %v, want %v", who, can, ok, wanted)
	}
}

func TestExampleOfRaces(t *testing.T) {
	r := race(t, "4d2/1@0:0:0")
	checkWin(t, r, 1, []int{2, 1, 2}, true)
	checkWin(t, r, 2, []int{1, 2, 1, 2}, true)
	wins, ok := impl.WinsAfter(r, 3)
	checkList(t, "WinsAfter", wins, ok, 6, 2, 0)
	r.Meet = 1
	wins, ok = impl.WinsAfter(r, 3)
	checkList(t, "WinsAfter with Meet 1", wins, ok, 7, 1, 0)
	checkBy(t, "4d2/1@1:0:0", []int{1, 1}, 0, 1, 0, 1, 0)
	checkBy(t, "4d2/1@1:0:0", []int{2, 2}, 0, 2, 0, 1, 0)
	checkBy(t, "4d2/1@0:0:0", []int{1, 1}, 1, 1, 0, 0, 0)
	n, ok := impl.WinsAt(r, 3, 1)
	checkInt(t, "WinsAt", n, ok, 1)
	x, y, ok := impl.PartWon(r, 3, 1)
	checkPart(t, "PartWon", x, y, ok, 1, 8)
	ahead, ok := impl.RaceAhead(r, 1)
	checkList(t, "RaceAhead", ahead, ok, 2, 0, 0)
	ahead, ok = impl.RaceAhead(r, 2)
	checkList(t, "RaceAhead", ahead, ok, 1, 0, 3)
	r.Meet = 0
	ahead, ok = impl.RaceAhead(r, 2)
	checkList(t, "RaceAhead with Meet 0", ahead, ok, 1, 2, 1)
}

func TestTokensThatAreSentBack(t *testing.T) {
	// Other sends First back, First sends Other back, and so on.
	checkBy(t, "4d1/0@1:0:0", []int{1, 1, 1, 1, 1}, 1, 0, 0, 2, 2)
	checkBy(t, "4d1/0@0:0:0", []int{1, 1, 1, 1, 1, 1, 1}, 4, 3, 1, 0, 0)
	// By a ladder, by a snake, and back from the end.
	checkBy(t, "6d2/0;1>3@1:0:3", []int{1}, 3, 0, 0, 0, 1)
	checkBy(t, "6d2/0;5>2@1:2:3", []int{1, 2}, 3, 2, 0, 0, 1)
	checkBy(t, "6d2/0;5>2@1:1:4", []int{1, 1}, 0, 2, 0, 1, 0)
	checkBy(t, "6d2/0;5>2@1:4:2", []int{1}, 2, 0, 0, 0, 1)
	checkBy(t, "6d2/0;5>2@0:4:2", []int{1}, 2, 2, 0, 0, 0)
	checkBy(t, "6d4/2@1:5:3", []int{4}, 3, 0, 0, 0, 1)
	checkBy(t, "6d4/2@1:3:5", []int{1, 3, 3}, 3, 4, 0, 1, 0)
	checkBy(t, "6d4/2@1:2:5", []int{2, 3, 1}, 1, 4, 0, 1, 0)
	// A token is passed by, and one is met behind the snake alone.
	checkBy(t, "6d2/0@1:1:2", []int{2}, 3, 2, 0, 0, 0)
	checkBy(t, "6d2/0;3>1@1:2:1", []int{1}, 1, 0, 0, 0, 1)
	// At the start nobody is sent back, by whatever way a token comes there.
	checkBy(t, "6d2/0;3>0@1:2:0", []int{1}, 0, 0, 0, 0, 0)
	checkBy(t, "4d8/2@1:3:0", []int{5}, 0, 0, 0, 0, 0)
	checkBy(t, "6d2/0;1>0;3>0@1:0:2", []int{1, 1}, 0, 0, 0, 0, 0)
	// Both tokens are never at the end: the game is over before.
	checkBy(t, "4d2/1@1:3:3", []int{1, 1}, 4, 3, 1, 0, 0)
}

func TestBothTokensOnOneSquare(t *testing.T) {
	for meet := range 2 {
		at := "@" + strconv.Itoa(meet)
		// It goes on, and nobody is sent back.
		checkBy(t, "6d2/0"+at+":3:3", []int{1}, 4, 3, 0, 0, 0)
		// It stays where it was: beyond the end, back from it, and by a snake.
		checkBy(t, "4d2/0"+at+":3:3", []int{2, 2}, 3, 3, 0, 0, 0)
		checkBy(t, "4d2/2"+at+":3:3", []int{2, 2}, 3, 3, 0, 0, 0)
		checkBy(t, "6d2/0;3>2"+at+":2:2", []int{1, 1}, 2, 2, 0, 0, 0)
		checkBy(t, "6d2/0;1>0"+at+":0:0", []int{1, 1}, 0, 0, 0, 0, 0)
		checkBy(t, "1d8/0"+at+":0:0", []int{8, 7}, 0, 0, 0, 0, 0)
		checkBy(t, "1d1/0"+at+":0:0", []int{1, 1}, 1, 0, 1, 0, 0)
	}
	// It stays, then the other one goes on, and comes back.
	checkBy(t, "6d2/0;5>3@1:3:3", []int{2, 1, 1, 1}, 4, 1, 0, 0, 1)
	checkBy(t, "6d2/0;5>3@1:3:3", []int{2, 1, 2, 1}, 0, 3, 0, 1, 0)
	checkBy(t, "6d2/0;5>3@1:3:3", []int{1, 2, 1}, 3, 0, 0, 0, 1)
	wins, ok := impl.WinsAfter(race(t, "4d2/0@1:3:3"), 2)
	checkList(t, "WinsAfter", wins, ok, 1, 2, 1)
	ahead, ok := impl.RaceAhead(race(t, "4d2/0@1:3:3"), 2)
	checkList(t, "RaceAhead", ahead, ok, 2, 1, 1)
	n, ok := impl.CountRaced(race(t, "4d2/0@1:3:3"))
	checkInt(t, "CountRaced", n, ok, 4)
}

func TestTokenAtTheEndAlready(t *testing.T) {
	for _, text := range []string{"4d2/1@0:", "4d2/0@1:", "4d2/2;2>3@1:", "4d2/0;1>0;2>0@0:"} {
		for square := range 4 {
			won := race(t, text+"4:3")
			if !modelHolds(won.Board, square) {
				continue
			}
			won.Other = square
			checkOver(t, won, 1)
			lost, ok := impl.OtherRace(won)
			if !ok || lost.First != square || lost.Other != 4 {
				t.Fatal("OtherRace", lost, ok)
			}
			checkOver(t, lost, 2)
		}
	}
}

// checkOver wants that nothing is done by throws, as who has won already.
func checkOver(t *testing.T, r impl.Race, who int) {
	t.Helper()
	text, ok := impl.RaceText(r)
	if !ok {
		t.Fatal("no text", r)
	}
	for _, throws := range [][]int{nil, {1}, {2, 1}, slices.Repeat([]int{2, 1}, 100)} {
		checkBy(t, text, throws, r.First, r.Other, who, 0, 0)
	}
	all := 1
	for throws := range impl.MaxRaced + 1 {
		wins, ahead := []int{0, 0, 0}, []int{0, 0, 0}
		wins[who], ahead[2*who-2] = all, all
		got, ok := impl.WinsAfter(r, throws)
		checkList(t, "WinsAfter "+text, got, ok, wins...)
		got, ok = impl.RaceAhead(r, throws)
		checkList(t, "RaceAhead "+text, got, ok, ahead...)
		for w := 1; w <= 2; w++ {
			at := 0
			if w == who && throws == 0 {
				at = 1
			}
			n, ok := impl.WinsAt(r, throws, w)
			checkInt(t, "WinsAt "+text, n, ok, at)
			x, y, ok := impl.PartWon(r, throws, w)
			checkPart(t, "PartWon "+text, x, y, ok, wins[w]/all, 1)
		}
		all *= r.Board.Faces
	}
	checkWin(t, r, who, nil, true)
	checkWin(t, r, 3-who, nil, false)
	n, ok := impl.CountRaced(r)
	checkInt(t, "CountRaced "+text, n, ok, 1)
}

func TestRacesThatNobodyCanWin(t *testing.T) {
	for _, c := range []struct {
		text   string
		raced  int
		throws []int
		sent   []int
	}{
		// Each throw leads back to the start.
		{"4d2/1;1>0;2>0@0:0:0", 2, []int{1, 2, 2}, []int{0, 0}},
		{"4d2/1;1>0;2>0@1:0:0", 2, []int{1, 2, 2}, []int{0, 0}},
		// Each one sends the other one back.
		{"4d1/0@1:0:0", 3, []int{1, 1, 1}, []int{1, 1}},
		// Both stay on their squares.
		{"6d1/0;4>3;5>2@0:3:3", 2, []int{1, 1, 1}, []int{0, 0}},
		{"6d1/0;4>3;5>2@1:3:3", 2, []int{1, 1, 1}, []int{0, 0}},
	} {
		r := race(t, c.text)
		checkWin(t, r, 1, nil, false)
		checkWin(t, r, 2, nil, false)
		n, ok := impl.CountRaced(r)
		checkInt(t, "CountRaced "+c.text, n, ok, c.raced)
		got, ok := impl.SentBack(r, c.throws)
		checkList(t, "SentBack "+c.text, got, ok, c.sent...)
		checkNumberOrNone(t, "WinnerOf", 0, false)(impl.WinnerOf(r, c.throws))
		all := 1
		for throws := range impl.MaxRaced + 1 {
			wins, ok := impl.WinsAfter(r, throws)
			checkList(t, "WinsAfter "+c.text, wins, ok, all, 0, 0)
			for who := 1; who <= 2; who++ {
				n, ok := impl.WinsAt(r, throws, who)
				checkInt(t, "WinsAt "+c.text, n, ok, 0)
				x, y, ok := impl.PartWon(r, throws, who)
				checkPart(t, "PartWon "+c.text, x, y, ok, 0, 1)
			}
			all *= r.Board.Faces
		}
	}
}

func TestWinsThatNeedTheOtherToken(t *testing.T) {
	// From 2 and from 3 nothing leads to the end; from the start the ladder does.
	r := race(t, "6d1/0;1>5;4>3@0:2:3")
	checkWin(t, r, 1, nil, false)
	checkWin(t, r, 2, nil, false)
	// First comes to 3 and sends Other back, who is free then.
	r.Meet = 1
	checkWin(t, r, 1, nil, false)
	checkWin(t, r, 2, []int{1, 1, 1, 1}, true)
	n, ok := impl.CountRaced(r)
	checkInt(t, "CountRaced", n, ok, 5)
	// Other cannot but win by its second throw, before First comes to the end.
	r = race(t, "6d1/0@0:0:4")
	checkWin(t, r, 1, nil, false)
	checkWin(t, r, 2, []int{1, 1, 1, 1}, true)
	// But if First meets it before, it wins itself.
	r = race(t, "6d1/0@1:3:4")
	checkWin(t, r, 1, []int{1, 1, 1, 1, 1}, true)
	checkWin(t, r, 2, nil, false)
}

func TestFirstWinIsLexicographicallyFirst(t *testing.T) {
	// 1 and 3, or 3 and 1: the other one throws 1 in between.
	checkWin(t, race(t, "4d3/0@0:0:0"), 1, []int{1, 1, 3}, true)
	// With Meet 1 a 1 of Other would send First back, and a 1 of First Other.
	checkWin(t, race(t, "4d3/0@1:0:0"), 1, []int{1, 2, 3}, true)
	checkWin(t, race(t, "4d3/0@1:0:0"), 2, []int{1, 1, 2, 3}, true)
	// A greater face on which fewer throws follow comes before a lesser one.
	checkWin(t, race(t, "5d2/0;2>4@0:0:0"), 1, []int{2, 1, 1}, true)
	checkWin(t, race(t, "5d3/1;3>0;4>0@1:0:0"), 2, []int{1, 2, 2, 3}, true)
}

func TestRacesOnBoardsOfFortySquares(t *testing.T) {
	r := race(t, "40d1/0@0:0:0")
	checkWin(t, r, 1, slices.Repeat([]int{1}, 79), true)
	checkWin(t, r, 2, nil, false)
	n, ok := impl.CountRaced(r)
	checkInt(t, "CountRaced", n, ok, 80)
	r = race(t, "40d8/0@1:0:39")
	checkWin(t, r, 2, []int{1, 1}, true)
	checkWin(t, r, 1, []int{8, 2, 8, 2, 8, 2, 8, 2, 8}, true)
	checkBy(t, "40d8/2@1:39:38", []int{3}, 38, 0, 0, 0, 1)
	checkBy(t, "40d8/1@1:39:38", []int{3, 8}, 40, 38, 1, 0, 0)
	// Who throws 1 first wins: of all lists, 7 to the power of 14 have no 1.
	wins, ok := impl.WinsAfter(race(t, "40d8/0@1:39:39"), impl.MaxRaced)
	checkList(t, "WinsAfter", wins, ok, 678223072849, 1983905833736, 1735917604519)
}

func TestNumbersOfThrowsUpToTheirLimits(t *testing.T) {
	throws := slices.Repeat([]int{1}, impl.MaxThrows)
	checkBy(t, "40d1/0@0:0:0", throws, 40, 39, 1, 0, 0)
	checkBy(t, "4d1/0@1:0:0", throws, 0, 1, 0, 100, 99)
	checkBy(t, "4d1/0@1:0:0", throws[:199], 1, 0, 0, 99, 99)
	checkBy(t, "4d1/0@1:0:0", nil, 0, 0, 0, 0, 0)
	r := race(t, "4d1/0@0:0:0")
	for throws, want := range [][]int{{1, 0, 0}, {1, 0, 0}, {1, 0, 0}, {1, 0, 0}, {1, 0, 0}, {1, 0, 0}, {1, 0, 0}, {0, 1, 0}, {0, 1, 0}} {
		wins, ok := impl.WinsAfter(r, throws)
		checkList(t, "WinsAfter", wins, ok, want...)
		n, ok := impl.WinsAt(r, throws, 1)
		checkInt(t, "WinsAt", n, ok, want[1]*min(1, max(0, 8-throws)))
	}
	wins, ok := impl.WinsAfter(r, impl.MaxRaced)
	checkList(t, "WinsAfter", wins, ok, 0, 1, 0)
}

func TestTurnsAreEndedWithTheCall(t *testing.T) {
	r := race(t, "40d8/2@1:3:3")
	// It panics if a goroutine that was started in it is there still, and waits.
	synctest.Test(t, func(t *testing.T) {
		for range 20 {
			impl.RaceBy(r, nil)
			impl.RaceBy(r, []int{1, 2, 3})
			impl.RaceBy(r, []int{1, 2, 9})
			impl.WinnerOf(r, []int{1, 2})
			impl.SentBack(r, []int{1})
			impl.WinsAfter(r, 3)
			impl.WinsAt(r, 0, 1)
			impl.PartWon(r, 2, 3)
			impl.RaceAhead(r, impl.MaxRaced)
		}
	})
}

// checkHeats holds all that is asked of so many throws of a race against the
// heats of all lists.
func checkHeats(t *testing.T, r impl.Race, throws int) {
	t.Helper()
	heats := modelHeats(r, throws)
	wins, ahead, at := make([]int, 3), make([]int, 3), make([]int, 3)
	for _, heat := range heats {
		won := modelWon(heat.race)
		wins[won]++
		if heat.wonAt == throws {
			at[won]++
		}
		switch {
		case heat.race.First > heat.race.Other:
			ahead[0]++
		case heat.race.First == heat.race.Other:
			ahead[1]++
		default:
			ahead[2]++
		}
		race, who, ok := impl.RaceBy(r, heat.throws)
		if !ok || who != won || race.First != heat.race.First || race.Other != heat.race.Other || race.Meet != r.Meet {
			t.Error("RaceBy", heat.throws, race, who, ok, "want", heat.race, won)
		}
		sent, ok := impl.SentBack(r, heat.throws)
		checkList(t, "SentBack", sent, ok, heat.sent[1:]...)
		checkNumberOrNone(t, "WinnerOf", won, won != 0)(impl.WinnerOf(r, heat.throws))
	}
	got, ok := impl.WinsAfter(r, throws)
	checkList(t, "WinsAfter", got, ok, wins...)
	got, ok = impl.RaceAhead(r, throws)
	checkList(t, "RaceAhead", got, ok, ahead...)
	for who := 1; who <= 2; who++ {
		n, ok := impl.WinsAt(r, throws, who)
		checkInt(t, "WinsAt", n, ok, at[who])
		x, y, ok := impl.PartWon(r, throws, who)
		checkRatio(t, "PartWon", x, y, ok, big.NewInt(int64(wins[who])), big.NewInt(int64(len(heats))))
	}
}

// checkWins holds what is asked of a race alone against the model.
func checkWins(t *testing.T, r impl.Race) {
	t.Helper()
	n, ok := impl.CountRaced(r)
	checkInt(t, "CountRaced", n, ok, len(modelStands(r)))
	for who := 1; who <= 2; who++ {
		throws, can := modelFirstWin(r, who)
		checkWin(t, r, who, throws, can)
	}
}

func TestRacesOnSmallBoardsAreAsTheModel(t *testing.T) {
	k := 0
	for _, b := range smallBoards() {
		for _, r := range racesOn(b) {
			k++
			if k%7 == 0 {
				checkHeats(t, r, k/7%5)
			}
			if k%5 == 0 {
				checkWins(t, r)
			}
			if t.Failed() {
				t.Fatal(r)
			}
		}
	}
}

func TestIsRaceOfAllSmallNumbers(t *testing.T) {
	boards := append(smallBoards()[:200], impl.Board{}, impl.Board{Squares: 4, Faces: 2, Jumps: []impl.Jump{{From: 2, To: 2}}})
	for _, b := range boards {
		for meet := -1; meet <= 2; meet++ {
			for x := -1; x <= b.Squares+1; x++ {
				for y := -1; y <= b.Squares+1; y++ {
					r := impl.Race{Board: b, Meet: meet, First: x, Other: y}
					if impl.IsRace(r) != modelIsRace(r) {
						t.Error("IsRace", r, impl.IsRace(r))
					}
				}
			}
		}
	}
}

func TestRacesOnLargeBoardsAreAsTheModel(t *testing.T) {
	for i, r := range largeRaces(150, 40, 9) {
		throws := i % (impl.MaxRaced + 1)
		wins := modelWinsAfter(r, throws)
		got, ok := impl.WinsAfter(r, throws)
		checkList(t, "WinsAfter", got, ok, wins...)
		got, ok = impl.RaceAhead(r, throws)
		checkList(t, "RaceAhead", got, ok, modelAheadAfter(r, throws)...)
		for who := 1; who <= 2; who++ {
			at := wins[who]
			if throws > 0 {
				at -= modelWinsAfter(r, throws-1)[who] * r.Board.Faces
			}
			n, ok := impl.WinsAt(r, throws, who)
			checkInt(t, "WinsAt", n, ok, at)
			x, y, ok := impl.PartWon(r, throws, who)
			checkRatio(t, "PartWon", x, y, ok, big.NewInt(int64(wins[who])), modelPower(r.Board.Faces, throws))
		}
		if t.Failed() {
			t.Fatal(r)
		}
	}
}

func TestWinsOnLargeBoardsAreAsTheModel(t *testing.T) {
	// The greatest wins that a search has found: by 83 and by 86 throws.
	long := []impl.Race{
		race(t, "40d2/2;4>3;9>1;14>6;17>15;20>18;25>18;27>33;31>30;32>30;39>0@1:29:33"),
		race(t, "40d2/2;6>0;9>2;12>7;17>4;20>16;25>21;27>33;28>14;31>30;32>30;37>13;39>29@1:30:29"),
	}
	for i, r := range long {
		n, ok := impl.ShortestWin(r, 1+i)
		checkInt(t, "ShortestWin", n, ok, 83+3*i)
	}
	for _, r := range slices.Concat(long, largeRaces(20, 40, 10), largeRaces(150, 14, 11)) {
		checkWins(t, r)
		if t.Failed() {
			t.Fatal(r)
		}
	}
}

// seededThrows returns so many throws of a board, always the same ones.
func seededThrows(b impl.Board, count int, seed int) []int {
	var throws []int
	for k := range count {
		seed = (seed*193 + 2459) % 10007
		throws = append(throws, 1+(seed+k)%b.Faces)
	}
	return throws
}

func TestRacesGoThrowByThrow(t *testing.T) {
	for i, r := range largeRaces(200, 40, 12) {
		throws := seededThrows(r.Board, i, i)
		at, sent := r, []int{0, 0}
		for _, face := range throws {
			behind, _, ok := impl.RaceBy(at, []int{face})
			if !ok {
				t.Fatal("RaceBy", at, face)
			}
			one, ok := impl.SentBack(at, []int{face})
			if !ok || len(one) != 2 || one[0] != 0 {
				t.Fatal("SentBack", at, face, one, ok)
			}
			// Behind each throw it is for the other token, which is First then.
			sent = []int{sent[1] + one[1], sent[0]}
			at, ok = impl.OtherRace(behind)
			if !ok {
				t.Fatal("OtherRace", behind)
			}
		}
		if len(throws)%2 == 1 {
			at.First, at.Other = at.Other, at.First
			sent[0], sent[1] = sent[1], sent[0]
		}
		text, ok := impl.RaceText(at)
		if !ok {
			t.Fatal("RaceText", at)
		}
		checkRace(t, "RaceBy", text, modelWon(at))(impl.RaceBy(r, throws))
		got, ok := impl.SentBack(r, throws)
		checkList(t, "SentBack", got, ok, sent...)
		if t.Failed() {
			t.Fatal(r, throws)
		}
	}
}

func TestShortestWaysToWinAreWon(t *testing.T) {
	won := 0
	for _, r := range append(largeRaces(150, 40, 13), race(t, "40d1/0@0:0:0"), race(t, "40d2/2@0:0:0")) {
		for who := 1; who <= 2; who++ {
			throws, ok := impl.FirstWin(r, who)
			if !ok {
				continue
			}
			won++
			checkNumberOrNone(t, "WinnerOf", who, true)(impl.WinnerOf(r, throws))
			for n := range len(throws) {
				checkNumberOrNone(t, "WinnerOf fewer", 0, false)(impl.WinnerOf(r, throws[:n]))
				if n <= impl.MaxRaced {
					lists, ok := impl.WinsAt(r, n, who)
					checkInt(t, "WinsAt fewer", lists, ok, 0)
				}
			}
			if len(throws) <= impl.MaxRaced {
				lists, ok := impl.WinsAt(r, len(throws), who)
				if !ok || lists < 1 {
					t.Error("WinsAt", r, len(throws), lists, ok)
				}
			}
		}
		if t.Failed() {
			t.Fatal(r)
		}
	}
	if won < 150 {
		t.Error("only so many races can be won:", won)
	}
}

func TestOtherRaceAndTexts(t *testing.T) {
	for _, c := range []struct {
		text  string
		other string
	}{
		{"4d2/1@0:0:0", "4d2/1@0:0:0"},
		{"4d2/1@1:3:4", "4d2/1@1:4:3"},
		{"10d3/0;3>8;9>2@1:2:10", "10d3/0;3>8;9>2@1:10:2"},
		{"40d8/2;1>0;39>40@0:38:11", "40d8/2;1>0;39>40@0:11:38"},
	} {
		r := race(t, c.text)
		checkText(t, c.text, r)
		o, ok := impl.OtherRace(r)
		if !ok {
			t.Fatal("OtherRace", c.text)
		}
		checkText(t, c.other, o)
	}
	for _, r := range largeRaces(300, 40, 14) {
		text, ok := impl.RaceText(r)
		if !ok {
			t.Fatal("RaceText", r)
		}
		checkText(t, text, race(t, text))
	}
}

func checkText(t *testing.T, want string, r impl.Race) {
	t.Helper()
	text, ok := impl.RaceText(r)
	if !ok || text != want {
		t.Errorf("RaceText: got %s, %v, want %s", text, ok, want)
	}
}

func TestTextsThatAreNoRaces(t *testing.T) {
	for _, s := range []string{
		"", "@", "::", "@::", "4d2/1", "4d2/1@", "4d2/1@0", "4d2/1@0:0", "4d2/1@0:0:", "4d2/1@:0:0", "4d2/1@0::0",
		"4d2/1@0:0:0:", "4d2/1@0:0:0:0", "4d2/1@0:0:0@", "@4d2/1@0:0:0", "4d2/1@@0:0:0", "@0:0:0", "0:0:0@4d2/1",
		"4d2/1@00:0:0", "4d2/1@0:00:0", "4d2/1@0:0:00", "4d2/1@+0:0:0", "4d2/1@0:+0:0", "4d2/1@0:0:+0", "4d2/1@-0:0:0",
		"4d2/1@0:-0:0", "4d2/1@0:0:-0", "4d2/1@0:-1:0", "4d2/1@0:0:-1", "4d2/1@2:0:0", "4d2/1@-1:0:0", "4d2/1@0:5:0",
		"4d2/1@0:0:5", "4d2/1@0:4:4", "4d2/1@1:4:4", "04d2/1@0:0:0", "4d2/3@0:0:0", "4d9/1@0:0:0", "41d2/1@0:0:0",
		"4d2/1 @0:0:0", "4d2/1@ 0:0:0", "4d2/1@0:0: 0", "4d2/1@0:0:0\n", "4d2/1@0:0:0 ", " 4d2/1@0:0:0", "4d2/1@0:0:0x",
		"4d2/1;@0:0:0", "4d2/1;2>3;@0:0:0", "4d2/1;2>3@0:2:0", "4d2/1;2>3@0:0:2", "4d2/1;3>2;2>3@0:0:0", "4d2/1@x:0:0",
		"4d2/1@0.0.0", "4d2/1@0:0", "4d2/1:0@0:0", "4d2/1@0:0:9223372036854775808", "4d2/1@18446744073709551616:0:0", "4d2/1@0:0x1:0",
		"4d2/1@0:1_0:0", "4d2/1@0:٣:0",
	} {
		if r, ok := impl.ParseRace(s); ok || !isZero(reflect.ValueOf(r)) {
			t.Errorf("%q is %v, %v", s, r, ok)
		}
	}
}

func TestChangedTextsOfRacesAreAsTheModel(t *testing.T) {
	for _, text := range []string{"4d2/1;2>3@1:3:4", "10d3/0;3>8;9>2@0:1:10", "40d8/2@1:39:0"} {
		for i := range len(text) + 1 {
			for _, c := range "0123456789/;>@:d -" {
				checkParse(t, text[:i]+string(c)+text[i:])
				if i < len(text) {
					checkParse(t, text[:i]+string(c)+text[i+1:])
					checkParse(t, text[:i]+text[i+1:])
				}
			}
		}
	}
}

// checkParse holds what a text is read as against the model.
func checkParse(t *testing.T, s string) {
	t.Helper()
	r, ok := impl.ParseRace(s)
	want, wanted := modelParseRace(s)
	if ok != wanted || !reflect.DeepEqual(r, want) && ok || !ok && !isZero(reflect.ValueOf(r)) {
		t.Errorf("%q is %v, %v, want %v, %v", s, r, ok, want, wanted)
	}
}
