package tests

import (
	"math"
	"reflect"
	"slices"
	"testing"

	"loop.example/g01306/impl"
)

// Promise 11 for chapter 2.

// fewCalls calls all of chapter 2 that takes at most 16 throws.
func fewCalls(b impl.Board, square int, throws int) []call {
	return []call{
		made("AverageAfter")(impl.AverageAfter(b, square, throws)),
		made("SnakeBites")(impl.SnakeBites(b, square, throws)),
	}
}

// againstCalls calls what takes at most 10 throws of two tokens.
func againstCalls(b impl.Board, square int, other int, throws int) []call {
	return []call{made("AheadAfter")(impl.AheadAfter(b, square, other, throws))}
}

// manyCalls calls all of chapter 2 that takes at most MaxThrown throws.
func manyCalls(b impl.Board, square int, to int, throws int) []call {
	return []call{
		made("PlacesAfter")(impl.PlacesAfter(b, square, throws)),
		made("PartAt")(impl.PartAt(b, square, to, throws)),
		made("PartDone")(impl.PartDone(b, square, throws)),
		made("PartDoneAt")(impl.PartDoneAt(b, square, throws)),
		made("LikeliestAt")(impl.LikeliestAt(b, square, throws)),
		made("PartMet")(impl.PartMet(b, square, to, throws)),
		made("DoneTable")(impl.DoneTable(b, square, throws)),
	}
}

// doneCalls calls what asks for a square alone.
func doneCalls(b impl.Board, square int) []call {
	return []call{
		made("HalfDone")(impl.HalfDone(b, square)),
		made("AllDone")(impl.AllDone(b, square)),
	}
}

func chanceCalls(b impl.Board, square int, to int, throws int) []call {
	calls := append(manyCalls(b, square, to, throws), fewCalls(b, square, throws)...)
	return append(append(calls, againstCalls(b, square, to, throws)...), doneCalls(b, square)...)
}

// checkAllSucceed wants calls whose last result is true.
func checkAllSucceed(t *testing.T, why string, calls []call) {
	t.Helper()
	for _, c := range calls {
		if c.results[len(c.results)-1] != true {
			t.Errorf("%s, %s: fails", c.name, why)
		}
	}
}

func TestChancesOfBoardsThatAreNoneFail(t *testing.T) {
	for why, b := range noBoards() {
		before := slices.Clone(b.Jumps)
		for throws := range 3 {
			checkFails(t, why, chanceCalls(b, 0, b.Squares, throws))
			checkFails(t, why, chanceCalls(b, b.Squares, 0, throws))
		}
		if !slices.Equal(before, b.Jumps) {
			t.Error(why, "modified:", b.Jumps)
		}
	}
}

func TestChancesOfSquaresThatAreNoneFail(t *testing.T) {
	for over := range 3 {
		b := board(t, example)
		b.Over = over
		for _, square := range []int{math.MinInt, -1, 3, 9, 11, 101, math.MaxInt} {
			for _, throws := range []int{0, 1, 10} {
				checkFails(t, "no square", chanceCalls(b, square, 10, throws))
				checkFails(t, "no square", chanceCalls(b, square, square, throws))
				checkFails(t, "no square to come to", []call{
					made("PartAt")(impl.PartAt(b, 0, square, throws)),
					made("PartMet")(impl.PartMet(b, 0, square, throws)),
					made("AheadAfter")(impl.AheadAfter(b, 0, square, throws)),
				})
			}
		}
	}
}

func TestNumbersOfThrowsThatAreNoneFail(t *testing.T) {
	for _, text := range []string{example, "1d1/0", "100d8/2", "4d2/1;1>0;2>0"} {
		b := board(t, text)
		for _, square := range []int{0, b.Squares} {
			for _, throws := range []int{math.MinInt, -1, 21, math.MaxInt} {
				checkFails(t, "no number of throws", manyCalls(b, square, 0, throws))
			}
			for _, throws := range []int{math.MinInt, -1, 17, 20, 21, math.MaxInt} {
				checkFails(t, "no number of at most 16", fewCalls(b, square, throws))
			}
			for _, throws := range []int{math.MinInt, -1, 11, 16, 20, 21, math.MaxInt} {
				checkFails(t, "no number of at most 10", againstCalls(b, square, 0, throws))
				checkFails(t, "no number of at most 10", againstCalls(b, 0, square, throws))
			}
			checkAllSucceed(t, text, manyCalls(b, square, 0, 20))
			checkAllSucceed(t, text, fewCalls(b, square, 16))
			checkAllSucceed(t, text, againstCalls(b, square, 0, 10))
		}
	}
}

func TestGreatestNumbersOfThrowsDoNotPanic(t *testing.T) {
	numbers := []int{math.MinInt, -1, 0, 1, 8, 100, math.MaxInt}
	for _, x := range numbers {
		for _, y := range numbers {
			for _, z := range numbers {
				chanceCalls(board(t, example), x, y, z)
				chanceCalls(impl.Board{Squares: x, Faces: y, Over: 1, Jumps: []impl.Jump{{From: y, To: z}}}, x, y, z)
			}
		}
	}
}

func TestChancesShareNoMemory(t *testing.T) {
	for _, text := range []string{example, "10d3/1", "30d6/2;4>1;5>2;7>20;25>30"} {
		b := board(t, text)
		var room []impl.Jump
		b.Jumps, room = marked(b.Jumps, impl.Jump{From: -7, To: -7})
		before := slices.Clone(room)
		kept := chanceCalls(b, 0, 8, 10)
		scratchResults(chanceCalls(b, 0, 8, 10))
		if !reflect.DeepEqual(kept, chanceCalls(b, 0, 8, 10)) {
			t.Error("a result is shared:", text)
		}
		if !slices.Equal(room, before) {
			t.Error("modified:", text, room)
		}
	}
}
