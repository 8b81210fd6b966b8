package tests

import (
	"math"
	"reflect"
	"slices"
	"strings"
	"testing"

	"loop.example/g01306/impl"
)

// Promise 11: every function accepts all arguments without panicking and modifies none of them.

// call is a call of a function, told by its name, and what it returned.
type call struct {
	name    string
	results []any
}

func made(name string) func(results ...any) call {
	return func(results ...any) call { return call{name, results} }
}

// isZero reports whether a value is zero, an empty slice being one.
func isZero(v reflect.Value) bool {
	switch v.Kind() {
	case reflect.Slice:
		return v.Len() == 0
	case reflect.Struct:
		for i := range v.NumField() {
			if !isZero(v.Field(i)) {
				return false
			}
		}
		return true
	}
	return v.IsZero()
}

func checkFails(t *testing.T, why string, calls []call) {
	t.Helper()
	for _, c := range calls {
		for _, r := range c.results {
			if !isZero(reflect.ValueOf(r)) {
				t.Errorf("%s, %s: got %v", c.name, why, c.results)
				break
			}
		}
	}
}

// squareCalls calls all that asks for one square.
func squareCalls(b impl.Board, square int) []call {
	return []call{
		made("ThrowTo")(impl.ThrowTo(b, square, 1)),
		made("PlayThrows")(impl.PlayThrows(b, square, []int{1})),
		made("PlayThrows none")(impl.PlayThrows(b, square, nil)),
		made("PathOfThrows")(impl.PathOfThrows(b, square, []int{1})),
		made("PathOfThrows none")(impl.PathOfThrows(b, square, nil)),
		made("FewestThrows")(impl.FewestThrows(b, square)),
		made("FirstThrows")(impl.FirstThrows(b, square)),
		made("CountFewest")(impl.CountFewest(b, square)),
		made("ReachedFrom")(impl.ReachedFrom(b, square)),
		made("LandingsOf")(impl.LandingsOf(b, square)),
		made("FacesTo")(impl.FacesTo(b, square, b.Squares)),
	}
}

// boardCalls calls all that asks for a board.
func boardCalls(b impl.Board, square int, j impl.Jump) []call {
	return append(squareCalls(b, square),
		made("IsBoard")(impl.IsBoard(b)),
		made("HopelessSquares")(impl.HopelessSquares(b)),
		made("SnakesOf")(impl.SnakesOf(b)),
		made("LaddersOf")(impl.LaddersOf(b)),
		made("AddJump")(impl.AddJump(b, j)),
		made("DropJump")(impl.DropJump(b, j.From)),
		made("TurnJumps")(impl.TurnJumps(b)),
		made("BestLadder")(impl.BestLadder(b)),
		made("BoardText")(impl.BoardText(b)),
	)
}

// noBoards returns values that are no boards, told by why they are none.
func noBoards() map[string]impl.Board {
	jumps := []impl.Jump{{From: 3, To: 8}, {From: 9, To: 2}}
	many := []impl.Jump{}
	for from := 1; from <= impl.MaxJumps+1; from++ {
		many = append(many, impl.Jump{From: from, To: 0})
	}
	return map[string]impl.Board{
		"zero board":         {},
		"no squares":         {Squares: 0, Faces: 3},
		"too many squares":   {Squares: 101, Faces: 3, Jumps: jumps},
		"least squares":      {Squares: math.MinInt, Faces: 3, Jumps: jumps},
		"most squares":       {Squares: math.MaxInt, Faces: 3, Jumps: jumps},
		"no faces":           {Squares: 10, Faces: 0, Jumps: jumps},
		"too many faces":     {Squares: 10, Faces: 9, Jumps: jumps},
		"least faces":        {Squares: 10, Faces: math.MinInt, Jumps: jumps},
		"most faces":         {Squares: 10, Faces: math.MaxInt, Jumps: jumps},
		"lesser Over":        {Squares: 10, Faces: 3, Over: -1, Jumps: jumps},
		"greater Over":       {Squares: 10, Faces: 3, Over: 3, Jumps: jumps},
		"jump from start":    {Squares: 10, Faces: 3, Jumps: []impl.Jump{{From: 0, To: 8}}},
		"jump from end":      {Squares: 10, Faces: 3, Jumps: []impl.Jump{{From: 10, To: 8}}},
		"jump to itself":     {Squares: 10, Faces: 3, Jumps: []impl.Jump{{From: 3, To: 3}}},
		"jump below start":   {Squares: 10, Faces: 3, Jumps: []impl.Jump{{From: 3, To: -1}}},
		"jump beyond end":    {Squares: 10, Faces: 3, Jumps: []impl.Jump{{From: 3, To: 11}}},
		"jump from least":    {Squares: 10, Faces: 3, Jumps: []impl.Jump{{From: math.MinInt, To: 8}}},
		"jump to most":       {Squares: 10, Faces: 3, Jumps: []impl.Jump{{From: 3, To: math.MaxInt}}},
		"jumps in disorder":  {Squares: 10, Faces: 3, Jumps: []impl.Jump{{From: 9, To: 2}, {From: 3, To: 8}}},
		"jumps from the one": {Squares: 10, Faces: 3, Jumps: []impl.Jump{{From: 3, To: 8}, {From: 3, To: 2}}},
		"jump to a later":    {Squares: 10, Faces: 3, Jumps: []impl.Jump{{From: 3, To: 9}, {From: 9, To: 2}}},
		"jump to an earlier": {Squares: 10, Faces: 3, Jumps: []impl.Jump{{From: 3, To: 8}, {From: 9, To: 3}}},
		"too many jumps":     {Squares: 100, Faces: 3, Jumps: many},
	}
}

func TestBoardsThatAreNoneFail(t *testing.T) {
	for why, b := range noBoards() {
		before := slices.Clone(b.Jumps)
		checkFails(t, why, boardCalls(b, 0, impl.Jump{From: 5, To: 6}))
		checkFails(t, why, boardCalls(b, 0, impl.Jump{From: 9, To: 2}))
		if !slices.Equal(before, b.Jumps) {
			t.Error(why, "modified:", b.Jumps)
		}
	}
}

func TestSquaresThatAreNoneFail(t *testing.T) {
	for over := range 3 {
		b := board(t, strings.Replace(example, "/0", "/"+string(rune('0'+over)), 1))
		for _, square := range []int{math.MinInt, -1, 3, 9, 11, 101, math.MaxInt} {
			checkFails(t, "no square", squareCalls(b, square))
			checkFails(t, "no square to come to", []call{made("FacesTo")(impl.FacesTo(b, 0, square))})
		}
		for _, square := range []int{math.MinInt, -1, 0, 2, 8, 10, 11, math.MaxInt} {
			checkFails(t, "no jump", []call{made("DropJump")(impl.DropJump(b, square))})
		}
	}
}

func TestThrowsThatAreNoneFail(t *testing.T) {
	b := board(t, example)
	for _, square := range []int{0, 8, 10} {
		for _, face := range []int{math.MinInt, -1, 0, 4, 9, math.MaxInt} {
			checkFails(t, "no face", []call{
				made("ThrowTo")(impl.ThrowTo(b, square, face)),
				made("PlayThrows")(impl.PlayThrows(b, square, []int{1, 2, face})),
				made("PathOfThrows")(impl.PathOfThrows(b, square, []int{face, 1})),
			})
		}
		long := slices.Repeat([]int{2}, impl.MaxThrows+1)
		checkFails(t, "too many throws", []call{
			made("PlayThrows")(impl.PlayThrows(b, square, long)),
			made("PathOfThrows")(impl.PathOfThrows(b, square, long)),
		})
	}
}

func TestGreatestNumbersDoNotPanic(t *testing.T) {
	numbers := []int{math.MinInt, -1, 0, 1, 2, 8, 100, math.MaxInt}
	for _, x := range numbers {
		for _, y := range numbers {
			for _, z := range numbers {
				b, ok := impl.PlainBoard(x, y, z)
				if ok != modelIsBoard(b) {
					t.Error("PlainBoard", x, y, z, ok)
				}
				b = impl.Board{Squares: x, Faces: y, Over: 1, Jumps: []impl.Jump{{From: y, To: z}, {From: z, To: x}}}
				if impl.IsBoard(b) != modelIsBoard(b) {
					t.Error("IsBoard", b)
				}
				boardCalls(b, z, impl.Jump{From: z, To: y})
				b = board(t, example)
				boardCalls(b, x, impl.Jump{From: y, To: z})
				impl.FacesTo(b, x, y)
				impl.ThrowTo(b, x, y)
				impl.PlayThrows(b, x, []int{y, z})
				impl.PathOfThrows(b, x, []int{y, z})
			}
		}
	}
	impl.ParseBoard(strings.Repeat(";", 100000))
	impl.ParseBoard(strings.Repeat("9", 100000) + "d3/0")
	impl.ParseBoard("10d3/0" + strings.Repeat(";3>8", 100000))
}

// marked returns a list with room behind it, and all of the room, filled with
// numbers that no function may touch.
func marked[T any](list []T, mark T) (cut []T, room []T) {
	room = append(slices.Clone(list), mark, mark, mark, mark)
	return room[:len(list)], room
}

func TestArgumentsAreNotModified(t *testing.T) {
	for _, text := range []string{example, "10d3/1", "10d3/2;4>1;8>3", "30d6/0;5>0;7>20;11>30;25>2"} {
		b := board(t, text)
		var room []impl.Jump
		b.Jumps, room = marked(b.Jumps, impl.Jump{From: -7, To: -7})
		before := slices.Clone(room)
		throws, faces := marked([]int{1, 3, 2, 1}, -7)
		facesBefore := slices.Clone(faces)
		for _, j := range []impl.Jump{{From: 1, To: 6}, {From: 6, To: 0}, {From: 9, To: 2}, {From: 3, To: 3}, {From: 25, To: 1}} {
			boardCalls(b, 0, j)
			impl.PlayThrows(b, 0, throws)
			impl.PathOfThrows(b, 0, throws)
		}
		if !slices.Equal(room, before) || !slices.Equal(faces, facesBefore) {
			t.Error("modified:", text, room, faces)
		}
	}
}

// scratch overwrites a list and all the room behind it.
func scratch[T any](list []T, mark T) {
	list = list[:cap(list)]
	for i := range list {
		list[i] = mark
	}
}

// scratchResults overwrites every list of some results.
func scratchResults(calls []call) {
	for _, c := range calls {
		for _, r := range c.results {
			switch x := r.(type) {
			case []int:
				scratch(x, -9)
			case [][]int:
				for _, list := range x {
					scratch(list, -9)
				}
			case []impl.Jump:
				scratch(x, impl.Jump{From: -9, To: -9})
			case impl.Board:
				scratch(x.Jumps, impl.Jump{From: -9, To: -9})
			}
		}
	}
}

func TestResultsShareNoMemory(t *testing.T) {
	for _, text := range []string{"10d3/0;3>8", "10d3/1", "30d6/0;4>1;5>2;7>20;25>30", "30d6/2;4>1;20>22", "30d6/0;2>4;8>12"} {
		b := board(t, text)
		var room []impl.Jump
		b.Jumps, room = marked(b.Jumps, impl.Jump{From: -7, To: -7})
		before := slices.Clone(room)
		throws, faces := marked([]int{1, 3, 2, 1}, -7)
		facesBefore := slices.Clone(faces)
		for _, j := range []impl.Jump{{From: 6, To: 9}, {From: 4, To: 0}} {
			all := func() []call {
				return append(boardCalls(b, 0, j), made("PathOfThrows")(impl.PathOfThrows(b, 0, throws)), made("ParseBoard")(impl.ParseBoard(text)))
			}
			kept := all()
			scratchResults(all())
			if !reflect.DeepEqual(kept, all()) {
				t.Error("a result is shared:", text)
			}
		}
		if !slices.Equal(room, before) || !slices.Equal(faces, facesBefore) {
			t.Error("an argument is shared:", text, room, faces)
		}
	}
}
