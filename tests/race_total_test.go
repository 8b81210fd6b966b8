package tests

import (
	"math"
	"reflect"
	"slices"
	"strings"
	"testing"

	"loop.example/g01306/impl"
)

// Promise 11 for chapter 4.

// aloneCalls calls what asks for a race alone.
func aloneCalls(r impl.Race) []call {
	return []call{
		made("IsRace")(impl.IsRace(r)),
		made("CountRaced")(impl.CountRaced(r)),
		made("OtherRace")(impl.OtherRace(r)),
		made("RaceText")(impl.RaceText(r)),
	}
}

// listCalls calls what takes a list of throws.
func listCalls(r impl.Race, throws []int) []call {
	return []call{
		made("RaceBy")(impl.RaceBy(r, throws)),
		made("WinnerOf")(impl.WinnerOf(r, throws)),
		made("SentBack")(impl.SentBack(r, throws)),
	}
}

// raceLists calls what asks for all lists of so many throws, and by which of
// them who wins.
func raceLists(r impl.Race, throws int, who int) []call {
	return []call{
		made("WinsAfter")(impl.WinsAfter(r, throws)),
		made("RaceAhead")(impl.RaceAhead(r, throws)),
		made("WinsAt")(impl.WinsAt(r, throws, who)),
		made("PartWon")(impl.PartWon(r, throws, who)),
	}
}

// whoCalls calls what asks for who alone.
func whoCalls(r impl.Race, who int) []call {
	return []call{
		made("ShortestWin")(impl.ShortestWin(r, who)),
		made("FirstWin")(impl.FirstWin(r, who)),
		made("CanWin")(impl.CanWin(r, who)),
	}
}

func raceCalls(r impl.Race, list []int, throws int, who int) []call {
	return slices.Concat(aloneCalls(r), listCalls(r, list), raceLists(r, throws, who), whoCalls(r, who))
}

// noRaces returns values that are no races, told by why they are none.
func noRaces(t *testing.T) map[string]impl.Race {
	races := map[string]impl.Race{}
	for why, b := range noBoards() {
		races["start of "+why] = impl.Race{Board: b}
		races["end of "+why] = impl.Race{Board: b, Meet: 1, First: b.Squares, Other: 0}
	}
	for _, text := range []string{"41d1/1", "41d3/0;3>8;9>2", "100d8/2;1>0"} {
		races["too many squares for races: "+text] = impl.Race{Board: board(t, text)}
		races["too many squares, with Meet 1: "+text] = impl.Race{Board: board(t, text), Meet: 1, First: 10, Other: 10}
	}
	b := board(t, example)
	for why, n := range map[string]int{"least": math.MinInt, "-1": -1, "2": 2, "most": math.MaxInt} {
		races["Meet is "+why] = impl.Race{Board: b, Meet: n}
	}
	for why, n := range map[string]int{"least": math.MinInt, "-1": -1, "3, a jump": 3, "9, a jump": 9, "11": 11, "40": 40, "41": 41, "most": math.MaxInt} {
		races["First is "+why] = impl.Race{Board: b, Meet: 1, First: n}
		races["Other is "+why] = impl.Race{Board: b, Other: n}
		races["both are "+why] = impl.Race{Board: b, Meet: 1, First: n, Other: n}
		races["First is at the end, Other "+why] = impl.Race{Board: b, First: 10, Other: n}
		races["Other is at the end, First "+why] = impl.Race{Board: b, First: n, Other: 10}
	}
	races["both are at the end"] = impl.Race{Board: b, First: 10, Other: 10}
	races["both are at the end, with Meet 1"] = impl.Race{Board: b, Meet: 1, First: 10, Other: 10}
	return races
}

func TestRacesThatAreNoneFail(t *testing.T) {
	for why, r := range noRaces(t) {
		before := slices.Clone(r.Board.Jumps)
		for throws := range 3 {
			for who := 1; who <= 2; who++ {
				checkFails(t, why, raceCalls(r, []int{1, 1, 1}[:throws], throws, who))
			}
		}
		if !slices.Equal(before, r.Board.Jumps) {
			t.Error(why, "modified:", r.Board.Jumps)
		}
	}
}

// goodRaces are races that have won, races that nobody can win, and others.
var goodRaces = []string{
	"10d3/0;3>8;9>2@0:0:0", "10d3/0;3>8;9>2@1:10:8", "10d3/0;3>8;9>2@1:0:10", "4d3/1;1>0;2>0;3>0@1:0:0", "40d3/2@1:39:39",
}

func TestThrowsOfRacesThatAreNoneFail(t *testing.T) {
	for _, text := range goodRaces {
		r := race(t, text)
		for _, face := range []int{math.MinInt, -1, 0, 4, 9, math.MaxInt} {
			checkFails(t, "no face", listCalls(r, []int{face}))
			checkFails(t, "no face", listCalls(r, []int{1, 2, face}))
			checkFails(t, "no face", listCalls(r, []int{face, 1, 2, 3}))
		}
		checkFails(t, "too many throws", listCalls(r, slices.Repeat([]int{2}, impl.MaxThrows+1)))
		checkFails(t, "too many throws", listCalls(r, slices.Repeat([]int{1, 2, 3}, 1000)))
		checkOnlyWinnerFails(t, text, listCalls(r, slices.Repeat([]int{2}, impl.MaxThrows)))
		checkOnlyWinnerFails(t, text, listCalls(r, nil))
	}
}

// checkOnlyWinnerFails wants calls that succeed, but that nobody may have won.
func checkOnlyWinnerFails(t *testing.T, why string, calls []call) {
	t.Helper()
	checkAllSucceed(t, why, slices.DeleteFunc(calls, func(c call) bool { return c.name == "WinnerOf" }))
}

func TestNumbersOfThrowsOfRacesThatAreNoneFail(t *testing.T) {
	for _, text := range goodRaces {
		r := race(t, text)
		for who := 1; who <= 2; who++ {
			for _, throws := range []int{math.MinInt, math.MinInt + 1, -1, impl.MaxRaced + 1, 16, 20, math.MaxInt} {
				checkFails(t, "no number of throws", raceLists(r, throws, who))
			}
			for _, throws := range []int{0, 1, impl.MaxRaced} {
				checkAllSucceed(t, text, raceLists(r, throws, who))
			}
		}
	}
}

func TestTokensThatAreNoneFail(t *testing.T) {
	for _, text := range goodRaces {
		r := race(t, text)
		for _, who := range []int{math.MinInt, -1, 0, 3, 4, math.MaxInt} {
			checkFails(t, "no token", whoCalls(r, who))
			for _, throws := range []int{0, 1, impl.MaxRaced} {
				checkFails(t, "no token", raceLists(r, throws, who)[2:])
			}
		}
	}
}

func TestGreatestNumbersOfRacesDoNotPanic(t *testing.T) {
	numbers := []int{math.MinInt, -1, 0, 1, 2, 8, 40, math.MaxInt}
	for _, x := range numbers {
		for _, y := range numbers {
			for _, z := range numbers {
				b := impl.Board{Squares: x, Faces: y, Over: 1, Jumps: []impl.Jump{{From: y, To: z}}}
				raceCalls(impl.Race{Board: b, Meet: z, First: x, Other: y}, []int{y, z}, z, x)
				raceCalls(impl.Race{Board: b, Meet: 1, First: z, Other: y}, []int{x}, x, 1)
				b = board(t, example)
				raceCalls(impl.Race{Board: b, Meet: x, First: y, Other: z}, []int{y, x}, y, z)
				raceCalls(impl.Race{Board: b, Meet: 1, First: 8, Other: 8}, []int{1, x, y}, z, y)
			}
		}
	}
	for _, s := range []string{":", "@", "9", "@0:0:0", "4d2/1@0:0:0"} {
		impl.ParseRace(strings.Repeat(s, 100000))
		impl.ParseRace("4d2/1@0:" + strings.Repeat(s, 100000))
		impl.ParseRace("4d2/1@" + strings.Repeat(s, 100000) + ":0:0")
		impl.ParseRace(strings.Repeat(s, 100000) + "@0:0:0")
	}
	for k := range 256 {
		impl.ParseRace(string([]byte{byte(k)}) + "4d2/1@0:0:0")
		impl.ParseRace("4d2/1@0:0:" + string([]byte{byte(k)}))
	}
}

// scratchRaces overwrites every list of some results, those of races among
// them.
func scratchRaces(calls []call) {
	scratchResults(calls)
	for _, c := range calls {
		for _, r := range c.results {
			if race, ok := r.(impl.Race); ok {
				scratch(race.Board.Jumps, impl.Jump{From: -9, To: -9})
			}
		}
	}
}

func TestRacesShareNoMemory(t *testing.T) {
	for _, text := range append(goodRaces, "30d6/2;4>1;5>2;7>20;25>30@1:6:3", "4d2/1@1:0:0") {
		r := race(t, text)
		var room []impl.Jump
		r.Board.Jumps, room = marked(r.Board.Jumps, impl.Jump{From: -7, To: -7})
		before := slices.Clone(room)
		throws, faces := marked([]int{1, 2, 2, 1, 2, 1, 1, 2, 2, 1}, -7)
		facesBefore := slices.Clone(faces)
		for who := 1; who <= 2; who++ {
			all := func() []call {
				return append(raceCalls(r, throws, 10, who), made("ParseRace")(impl.ParseRace(text)))
			}
			kept := all()
			scratchRaces(all())
			if !reflect.DeepEqual(kept, all()) {
				t.Error("a result is shared:", text)
			}
		}
		if !slices.Equal(room, before) || !slices.Equal(faces, facesBefore) {
			t.Error("an argument is shared or modified:", text, room, faces)
		}
	}
}
