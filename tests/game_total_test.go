package tests

import (
	"math"
	"reflect"
	"slices"
	"testing"

	"loop.example/g01306/impl"
)

// Promise 11 for chapter 8.

// gameListCalls calls what takes a list of throws.
func gameListCalls(b impl.Board, throws []int) []call {
	return []call{
		made("IsGame")(impl.IsGame(b, throws)),
		made("RankOfGame")(impl.RankOfGame(b, throws)),
		made("JumpsOfGame")(impl.JumpsOfGame(b, throws)),
	}
}

// gameCountCalls calls what takes a number of throws, games or none.
func gameCountCalls(b impl.Board, throws int, jumps int, square int) []call {
	return []call{
		made("CountGames")(impl.CountGames(b, throws)),
		made("GameTable")(impl.GameTable(b, throws)),
		made("CountGamesBy")(impl.CountGamesBy(b, throws, jumps)),
		made("CountGamesOver")(impl.CountGamesOver(b, throws, square)),
	}
}

// gameCalls calls all of chapter 8 but what takes a list of throws.
func gameCalls(b impl.Board, throws int, rank int, jumps int, square int) []call {
	return slices.Concat(gameCountCalls(b, throws, jumps, square), gamesThatCalls(b, throws), []call{
		made("GameLengths")(impl.GameLengths(b)),
		made("GameOfRank")(impl.GameOfRank(b, throws, rank)),
	})
}

func TestGamesOfBoardsThatAreNoneFail(t *testing.T) {
	for why, b := range noBoards() {
		before := slices.Clone(b.Jumps)
		for _, throws := range []int{0, 1, 2, 3, 16} {
			checkFails(t, why, gameCalls(b, throws, 0, 0, 0))
			checkFails(t, why, gameCalls(b, throws, 1, 1, b.Squares))
		}
		for _, throws := range [][]int{nil, {1}, {3, 2}, {1, 2, 2}} {
			checkFails(t, why, gameListCalls(b, throws))
		}
		if !slices.Equal(before, b.Jumps) {
			t.Error(why, "modified:", b.Jumps)
		}
	}
}

func TestNumbersOfThrowsOfGamesThatAreNoneFail(t *testing.T) {
	for _, text := range []string{example, "1d1/0", "1d8/2", "100d8/1", "4d2/1;1>0;2>0"} {
		b := board(t, text)
		for _, throws := range []int{math.MinInt, -1, 17, 18, 200, math.MaxInt} {
			checkFails(t, "no number of throws", gameCountCalls(b, throws, 0, 0))
			checkFails(t, "no number of throws", gamesThatCalls(b, throws))
		}
		for _, throws := range []int{0, 1, 15, 16} {
			checkAllSucceed(t, text, gameCountCalls(b, throws, 0, 0))
			checkAllSucceed(t, text, gameCountCalls(b, throws, 16, b.Squares))
			checkAllSucceed(t, text, []call{made("GameLengths")(impl.GameLengths(b))})
		}
	}
	checkAllSucceed(t, example, gamesThatCalls(board(t, example), 16))
}

func TestListsOfThrowsOfGamesThatAreNoneFail(t *testing.T) {
	for _, text := range []string{example, "10d3/1", "1d3/2"} {
		b := board(t, text)
		for _, face := range []int{math.MinInt, -1, 0, 4, 9, math.MaxInt} {
			for _, throws := range [][]int{{face}, {3, face}, {face, 2}, {3, 2, face}, {1, 1, face}} {
				checkFails(t, "no face", gameListCalls(b, throws))
			}
		}
		checkFails(t, "too many throws", gameListCalls(b, slices.Repeat([]int{1}, impl.MaxThrows+1)))
		checkFails(t, "too many throws", gameListCalls(b, append(slices.Repeat([]int{3}, impl.MaxThrows), 2)))
	}
	// It would be a game by 201 jumps, but has a throw too many.
	b := board(t, "3d2/0;1>0;2>3")
	checkFails(t, "too many throws", gameListCalls(b, append(slices.Repeat([]int{1}, impl.MaxThrows), 2)))
}

func TestRanksJumpsAndSquaresThatAreNoneFail(t *testing.T) {
	for over := range 3 {
		b := board(t, example)
		b.Over = over
		for _, throws := range []int{0, 1, 2, 3, 16} {
			for _, jumps := range []int{math.MinInt, -1, 17, 18, math.MaxInt} {
				checkFails(t, "no number of jumps", []call{made("CountGamesBy")(impl.CountGamesBy(b, throws, jumps))})
			}
			for _, square := range []int{math.MinInt, -1, 3, 9, 11, 100, 101, math.MaxInt} {
				checkFails(t, "no square", []call{made("CountGamesOver")(impl.CountGamesOver(b, throws, square))})
			}
			checkNoRank(t, b, throws, math.MinInt, -1, 1<<48, math.MaxInt)
		}
	}
}

func TestGreatestNumbersOfGamesDoNotPanic(t *testing.T) {
	numbers := []int{math.MinInt, -1, 0, 1, 2, 16, 17, math.MaxInt}
	for _, x := range numbers {
		for _, y := range numbers {
			for _, z := range numbers {
				gameCalls(board(t, example), x, y, z, x)
				gameCalls(board(t, "100d8/2;4>100;99>0"), x, y, y, z)
				gameListCalls(board(t, example), []int{x, y, z})
				b := impl.Board{Squares: x, Faces: y, Over: 1, Jumps: []impl.Jump{{From: y, To: z}}}
				gameCalls(b, x, y, z, x)
				gameListCalls(b, []int{x, y, z})
			}
		}
	}
}

func TestGamesShareNoMemory(t *testing.T) {
	for _, text := range []string{example, "10d3/1", "4d3/2;1>0;2>3", "30d6/2;4>1;5>2;7>20;25>30"} {
		b := board(t, text)
		var room []impl.Jump
		b.Jumps, room = marked(b.Jumps, impl.Jump{From: -7, To: -7})
		before := slices.Clone(room)
		for _, list := range [][]int{{3, 2}, {1, 2, 2}, {1, 1, 1, 1}} {
			throws, faces := marked(list, -7)
			facesBefore := slices.Clone(faces)
			all := func() []call {
				return append(gameCalls(b, 5, 1, 0, 0), gameListCalls(b, throws)...)
			}
			kept := all()
			scratchResults(all())
			if !reflect.DeepEqual(kept, all()) {
				t.Error("a result is shared:", text)
			}
			if !slices.Equal(faces, facesBefore) {
				t.Error("throws modified:", text, faces)
			}
		}
		if !slices.Equal(room, before) {
			t.Error("modified:", text, room)
		}
	}
}
