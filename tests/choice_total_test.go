package tests

import (
	"math"
	"reflect"
	"slices"
	"testing"

	"loop.example/g01306/impl"
)

// Promise 11 for chapter 5.

// playCalls calls what takes a list of throws.
func playCalls(squares int, faces int, a int, b int, throws []int) []call {
	return []call{
		made("PlayPair")(impl.PlayPair(squares, faces, a, b, throws)),
		made("PairThrowsUsed")(impl.PairThrowsUsed(squares, faces, a, b, throws)),
	}
}

// faceCalls calls what takes a face.
func faceCalls(squares int, faces int, a int, b int, face int) []call {
	return []call{
		made("PairMoves")(impl.PairMoves(squares, faces, a, b, face)),
		made("PairChoice")(impl.PairChoice(squares, faces, a, b, face)),
	}
}

// onePairCalls calls what asks for a pair alone and succeeds for each one.
func onePairCalls(squares int, faces int, a int, b int) []call {
	return []call{
		made("IsPair")(impl.IsPair(squares, faces, a, b)),
		made("PairMean")(impl.PairMean(squares, faces, a, b)),
		made("PairByRule, leader")(impl.PairByRule(squares, faces, a, b, true)),
		made("PairByRule, other")(impl.PairByRule(squares, faces, a, b, false)),
		made("PairGreatest")(impl.PairGreatest(squares, faces, a, b)),
		made("PairFewest")(impl.PairFewest(squares, faces, a, b)),
		made("PairCountFewest")(impl.PairCountFewest(squares, faces, a, b)),
		made("PairStates")(impl.PairStates(squares, faces, a, b)),
		made("PairMatters")(impl.PairMatters(squares, faces, a, b)),
		made("PairFirstThrows")(impl.PairFirstThrows(squares, faces, a, b)),
	}
}

func pairCalls(squares int, faces int, a int, b int, face int, throws []int) []call {
	return slices.Concat(onePairCalls(squares, faces, a, b), faceCalls(squares, faces, a, b, face), playCalls(squares, faces, a, b, throws))
}

func TestPairsThatAreNoneFail(t *testing.T) {
	for why, p := range map[string][4]int{
		"no squares":                   {0, 1, 0, 0},
		"squares below 0":              {-1, 1, 0, 0},
		"least squares":                {math.MinInt, 1, 0, 0},
		"a square too many":            {impl.MaxPairSquares + 1, 4, 0, 0},
		"a square too many, at ends":   {impl.MaxPairSquares + 1, 1, 7, 7},
		"most squares":                 {math.MaxInt, 4, 0, 0},
		"no faces":                     {6, 0, 0, 0},
		"faces below 0":                {6, -1, 0, 0},
		"least faces":                  {6, math.MinInt, 0, 0},
		"a face too many":              {6, impl.MaxPairFaces + 1, 0, 0},
		"a face too many, at ends":     {6, impl.MaxPairFaces + 1, 6, 6},
		"most faces":                   {6, math.MaxInt, 0, 0},
		"token 0 before the start":     {6, 4, -1, 0},
		"token 0 on the least":         {6, 4, math.MinInt, 0},
		"token 0 beyond the end":       {5, 4, 6, 0},
		"token 0 beyond, 1 at it":      {5, 4, 6, 5},
		"token 0 on the most":          {6, 4, math.MaxInt, 0},
		"token 1 before the start":     {6, 4, 0, -1},
		"token 1 on the least":         {6, 4, 0, math.MinInt},
		"token 1 beyond the end":       {5, 4, 0, 6},
		"token 1 beyond, 0 at it":      {5, 4, 5, 6},
		"token 1 on the most":          {6, 4, 0, math.MaxInt},
		"both tokens beyond the end":   {3, 4, 4, 4},
		"both tokens before the start": {3, 4, -1, -1},
	} {
		for _, throws := range [][]int{nil, {1}, {1, 1, 1}, slices.Repeat([]int{1}, impl.MaxPairThrows)} {
			checkFails(t, why, pairCalls(p[0], p[1], p[2], p[3], 1, throws))
		}
	}
}

func TestPairsThatThereAreDoNotFail(t *testing.T) {
	for _, p := range modelPairs() {
		why := "a pair"
		checkAllSucceed(t, why, onePairCalls(p.squares, p.faces, p.at[0], p.at[1]))
		for face := 1; face <= p.faces; face++ {
			checkAllSucceed(t, why, faceCalls(p.squares, p.faces, p.at[0], p.at[1], face)[:1])
		}
		throws := slices.Repeat([]int{1}, impl.MaxPairThrows)
		checkAllSucceed(t, why, playCalls(p.squares, p.faces, p.at[0], p.at[1], throws))
	}
}

func TestThrowsOfPairsThatAreNoneFail(t *testing.T) {
	for _, p := range modelPairs() {
		for _, face := range []int{math.MinInt, -1, 0, p.faces + 1, 5, 9, math.MaxInt} {
			checkFails(t, "no face", faceCalls(p.squares, p.faces, p.at[0], p.at[1], face))
			// Also before the pair is done, and behind it.
			checkFails(t, "no face", playCalls(p.squares, p.faces, p.at[0], p.at[1], []int{face}))
			checkFails(t, "no face", playCalls(p.squares, p.faces, p.at[0], p.at[1], []int{face, 1, 1}))
			behind := append(slices.Repeat([]int{1}, 20), face)
			checkFails(t, "no face", playCalls(p.squares, p.faces, p.at[0], p.at[1], behind))
		}
		for _, count := range []int{impl.MaxPairThrows + 1, impl.MaxThrows, impl.MaxThrows + 1, 1000} {
			checkFails(t, "too many throws", playCalls(p.squares, p.faces, p.at[0], p.at[1], slices.Repeat([]int{1}, count)))
		}
	}
}

func TestGreatestNumbersOfPairsDoNotPanic(t *testing.T) {
	numbers := []int{math.MinInt, -1, 0, 1, 4, 6, 7, math.MaxInt}
	for _, x := range numbers {
		for _, y := range numbers {
			for _, z := range numbers {
				for _, w := range numbers {
					pairCalls(x, y, z, w, z, []int{w, x})
					pairCalls(6, 4, x, y, z, []int{1, w, z})
				}
			}
		}
	}
}

// checkRowsApart wants that the lists of one result share no memory.
func checkRowsApart(t *testing.T, what string, rows [][]int) {
	t.Helper()
	want := make([][]int, len(rows))
	for i, row := range rows {
		want[i] = slices.Clone(row)
	}
	for i, row := range rows {
		scratch(row, -9)
		scratch(want[i], -9)
		checkRows(t, what, want)(rows, true)
	}
}

func TestPairsShareNoMemory(t *testing.T) {
	for _, p := range modelPairs() {
		squares, faces, a, b := p.squares, p.faces, p.at[0], p.at[1]
		throws, room := marked(seededThrows(impl.Board{Faces: faces}, 15, p.left()), -7)
		before := slices.Clone(room)
		all := func() []call { return pairCalls(squares, faces, a, b, 1, throws) }
		kept := all()
		scratchResults(all())
		if !reflect.DeepEqual(kept, all()) {
			t.Error("a result is shared:", p)
		}
		if !slices.Equal(room, before) {
			t.Error("modified:", p, room)
		}
		play, _ := impl.PlayPair(squares, faces, a, b, throws)
		checkRowsApart(t, "PlayPair", play)
		states, _ := impl.PairStates(squares, faces, a, b)
		checkRowsApart(t, "PairStates", states)
	}
}
