package tests

import (
	"math"
	"reflect"
	"slices"
	"testing"

	"loop.example/g01306/impl"
)

// Promise 11 for chapter 3.

// meanCalls calls all of chapter 3 that fails if the square has no mean.
func meanCalls(b impl.Board, from int, square int, k int) []call {
	return []call{
		made("MeanThrows")(impl.MeanThrows(b, from)),
		made("MeanVisits")(impl.MeanVisits(b, from, square)),
		made("ChanceToMeet")(impl.ChanceToMeet(b, from, square)),
		made("MeanStays")(impl.MeanStays(b, from)),
		made("MeanJumps")(impl.MeanJumps(b, from, k)),
		made("LikeliestMet")(impl.LikeliestMet(b, from)),
	}
}

// meanBoardCalls calls all of chapter 3 that asks for a board alone.
func meanBoardCalls(b impl.Board) []call {
	return []call{
		made("LongestSquare")(impl.LongestSquare(b)),
		made("MeansByOver")(impl.MeansByOver(b)),
		made("BestAdded")(impl.BestAdded(b)),
		made("BestDropped")(impl.BestDropped(b)),
		made("CompareMeans")(impl.CompareMeans(b, b)),
	}
}

func allMeanCalls(b impl.Board, from int, square int, k int) []call {
	calls := append(meanCalls(b, from, square, k), meanBoardCalls(b)...)
	return append(calls, made("HasMean")(impl.HasMean(b, from)))
}

func TestMeansOfBoardsThatAreNoneFail(t *testing.T) {
	boards := noBoards()
	for _, text := range []string{"10d1/1", "10d3/0;3>8;9>2", "10d8/2;1>0", "11d2/1;10>4", "100d8/0;3>8;9>2"} {
		boards["too many squares for means: "+text] = board(t, text)
	}
	good := board(t, "9d3/0;3>8;7>2")
	for why, b := range boards {
		before := slices.Clone(b.Jumps)
		for _, square := range []int{0, 1, 8, b.Squares} {
			checkFails(t, why, allMeanCalls(b, square, 0, 0))
			checkFails(t, why, allMeanCalls(b, 0, square, 1))
		}
		checkFails(t, why, []call{
			made("CompareMeans")(impl.CompareMeans(b, good)),
			made("CompareMeans")(impl.CompareMeans(good, b)),
		})
		if !slices.Equal(before, b.Jumps) {
			t.Error(why, "modified:", b.Jumps)
		}
	}
}

func TestBoardsOfNineSquaresHaveMeans(t *testing.T) {
	for _, text := range []string{"9d3/0;3>8;7>2", "9d8/0;8>1", "9d1/1;1>9", "9d8/2;1>0;2>0;3>0;4>0;5>0;6>0;7>0"} {
		b := board(t, text)
		checkAllSucceed(t, text, allMeanCalls(b, 0, 0, 0))
		checkAllSucceed(t, text, allMeanCalls(b, 9, 0, len(b.Jumps)-1))
	}
}

func TestMeansOfSquaresThatAreNoneFail(t *testing.T) {
	for over := range 3 {
		b := board(t, "9d3/0;3>8;7>2")
		b.Over = over
		for _, square := range []int{math.MinInt, -1, 3, 7, 10, 100, 101, math.MaxInt} {
			checkFails(t, "no square", meanCalls(b, square, 0, 0))
			checkFails(t, "no square", meanCalls(b, square, square, 0))
			checkFails(t, "no square", []call{made("HasMean")(impl.HasMean(b, square))})
			for _, from := range []int{0, 8, 9} {
				checkFails(t, "no square to come to", []call{
					made("MeanVisits")(impl.MeanVisits(b, from, square)),
					made("ChanceToMeet")(impl.ChanceToMeet(b, from, square)),
				})
			}
		}
		for _, k := range []int{math.MinInt, -1, 2, 3, 7, math.MaxInt} {
			for _, from := range []int{0, 8, 9} {
				checkFails(t, "no jump", []call{made("MeanJumps")(impl.MeanJumps(b, from, k))})
			}
		}
	}
}

func TestGreatestNumbersForMeansDoNotPanic(t *testing.T) {
	numbers := []int{math.MinInt, -1, 0, 1, 7, 9, 10, math.MaxInt}
	for _, x := range numbers {
		for _, y := range numbers {
			for _, z := range numbers {
				allMeanCalls(board(t, "9d3/0;3>8;7>2"), x, y, z)
				allMeanCalls(impl.Board{Squares: x, Faces: y, Over: 1, Jumps: []impl.Jump{{From: y, To: z}}}, x, y, z)
			}
		}
	}
}

func TestMeansShareNoMemory(t *testing.T) {
	for _, text := range []string{"9d3/0;3>8;7>2", "9d3/1", "4d2/2;1>0;2>3", "6d1/0;1>5;2>0;3>0"} {
		b := board(t, text)
		var room []impl.Jump
		b.Jumps, room = marked(b.Jumps, impl.Jump{From: -7, To: -7})
		before := slices.Clone(room)
		kept := allMeanCalls(b, 0, b.Squares-1, 0)
		scratchResults(allMeanCalls(b, 0, b.Squares-1, 0))
		if !reflect.DeepEqual(kept, allMeanCalls(b, 0, b.Squares-1, 0)) {
			t.Error("a result is shared:", text)
		}
		if !slices.Equal(room, before) {
			t.Error("modified:", text, room)
		}
		means, ok := impl.MeansByOver(b)
		for i, mean := range means {
			want := slices.Concat(means...)
			want[2*i], want[2*i+1] = -9, -9
			scratch(mean, -9)
			checkList(t, "means of one result", slices.Concat(means...), ok, want...)
		}
	}
}
