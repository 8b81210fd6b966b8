package tests

import (
	"math"
	"reflect"
	"slices"
	"strings"
	"testing"

	"loop.example/g01306/impl"
)

// Promise 11 for chapter 9.

// puzzleCalls calls all that asks for a puzzle alone, or with an index or a
// clue that every puzzle could have.
func puzzleCalls(p impl.Puzzle) []call {
	return append(puzzleOnlyCalls(p), clueCalls(p, 0, impl.Clue{})...)
}

func puzzleOnlyCalls(p impl.Puzzle) []call {
	return []call{
		made("IsPuzzle")(impl.IsPuzzle(p)),
		made("Solutions")(impl.Solutions(p)),
		made("CountSolutions")(impl.CountSolutions(p)),
		made("FirstSolution")(impl.FirstSolution(p)),
		made("SureOver")(impl.SureOver(p)),
		made("IsSolved")(impl.IsSolved(p)),
		made("NeedlessClues")(impl.NeedlessClues(p)),
		made("LeftByClues")(impl.LeftByClues(p)),
		made("BestClue")(impl.BestClue(p)),
		made("HarderPuzzle")(impl.HarderPuzzle(p)),
		made("PuzzleText")(impl.PuzzleText(p)),
	}
}

// clueCalls calls what asks for an index or a clue of a puzzle.
func clueCalls(p impl.Puzzle, k int, c impl.Clue) []call {
	return []call{
		made("DropClue")(impl.DropClue(p, k)),
		made("AddClue")(impl.AddClue(p, c)),
	}
}

// hiddenCalls calls all that asks for a hidden board.
func hiddenCalls(b impl.Board, c impl.Clue, clues int, seed int) []call {
	return []call{
		made("DoesFit")(impl.DoesFit(c, b)),
		made("MakePuzzle")(impl.MakePuzzle(b, clues, seed)),
	}
}

// sizeCalls calls all that asks for numbers of squares and faces.
func sizeCalls(squares int, faces int, c impl.Clue) []call {
	return []call{
		made("IsClue")(impl.IsClue(squares, faces, c)),
		made("HiddenBoards")(impl.HiddenBoards(squares, faces)),
	}
}

// noClues returns values that are no clues of boards of 3 squares and 2 faces.
func noClues() []impl.Clue {
	var clues []impl.Clue
	least, most := []int{math.MinInt, -2, -1}, math.MaxInt
	for _, kind := range append(least, 6, 7, most) {
		clues = append(clues, impl.Clue{Kind: kind}, impl.Clue{Kind: kind, B: 1})
	}
	for kind := range 6 {
		good := impl.Clue{Kind: kind}
		if kind == 1 || kind == 5 {
			good.B = 1
		}
		for _, n := range append(least, 11, 21, most) {
			a, b, c := good, good, good
			a.A, b.B, c.C = n, n, n
			if kind != 5 || n != 11 {
				clues = append(clues, a)
			}
			clues = append(clues, b, c)
		}
	}
	return clues
}

func TestCluesThatAreNoneFail(t *testing.T) {
	for _, c := range noClues() {
		if impl.IsClue(3, 2, c) {
			t.Error("a clue:", c)
		}
		for _, clues := range [][]impl.Clue{{c}, {{}, c}, {c, {}}, {{}, {C: 1}, c}, {{}, {}, {}, {}, {}, c}, {c, c, c, c, c, c}} {
			p := impl.Puzzle{Squares: 3, Faces: 2, Clues: clues}
			before := slices.Clone(clues)
			checkFails(t, "no clue", puzzleCalls(p))
			if !slices.Equal(clues, before) {
				t.Error("modified:", clues)
			}
		}
		for _, text := range []string{"3d2:", "3d2:0.0.0.0,1.0.1.3"} {
			checkFails(t, "no clue", []call{made("AddClue")(impl.AddClue(puzzle(t, text), c))})
		}
		for _, text := range []string{"3d2/0", "3d2/1;1>3", "3d2/2;2>0"} {
			checkFails(t, "no clue", []call{made("DoesFit")(impl.DoesFit(c, board(t, text)))})
		}
	}
}

func TestCluesOfOtherBoardsFail(t *testing.T) {
	// They are clues of 10 squares and 8 faces only.
	for _, c := range []impl.Clue{{Kind: 1, A: 4, B: 1}, {Kind: 1, B: 3}, {Kind: 1, B: 1, C: 4}, {Kind: 4, A: 4}, {Kind: 5, A: 1, B: 3}, {Kind: 5, A: 1, B: 1, C: 4}} {
		checkClue(t, 10, 8, c, true)
		checkClue(t, 3, 2, c, false)
		checkFails(t, "of another board", hiddenCalls(board(t, "3d2/0"), c, 0, -1))
		checkFails(t, "of another board", []call{made("AddClue")(impl.AddClue(puzzle(t, "3d2:"), c))})
		checkFails(t, "of other boards", puzzleCalls(impl.Puzzle{Squares: 3, Faces: 2, Clues: []impl.Clue{c}}))
	}
}

func TestPuzzlesThatAreNoneFail(t *testing.T) {
	clues := []impl.Clue{{}, {Kind: 2, C: 2}}
	for _, p := range []impl.Puzzle{
		{}, {Clues: clues}, {Squares: 3}, {Faces: 2}, {Squares: 0, Faces: 2, Clues: clues}, {Squares: 11, Faces: 2, Clues: clues},
		{Squares: -3, Faces: 2, Clues: clues}, {Squares: math.MinInt, Faces: 2, Clues: clues}, {Squares: math.MaxInt, Faces: 2, Clues: clues},
		{Squares: 3, Faces: 0, Clues: clues}, {Squares: 3, Faces: 9, Clues: clues}, {Squares: 3, Faces: -2, Clues: clues},
		{Squares: 3, Faces: math.MinInt, Clues: clues}, {Squares: 3, Faces: math.MaxInt, Clues: clues},
		{Squares: 3, Faces: 2, Clues: make([]impl.Clue, 7)}, {Squares: 3, Faces: 2, Clues: make([]impl.Clue, 100000)},
		{Squares: 11, Faces: 2}, {Squares: 3, Faces: 9},
	} {
		checkFails(t, "no puzzle", puzzleCalls(p))
		for k := -1; k <= len(p.Clues) && k < 9; k++ {
			checkFails(t, "no puzzle", clueCalls(p, k, impl.Clue{}))
		}
	}
}

func TestBoardsThatAreNotHiddenFail(t *testing.T) {
	clues := allClues(3, 2)
	for why, b := range noBoards() {
		before := slices.Clone(b.Jumps)
		for _, c := range []impl.Clue{{}, {C: b.Over}, {Kind: 1, B: 1}, {Kind: 2}, {Kind: 3}, {Kind: 4}, {Kind: 5, B: 1}} {
			checkFails(t, why, hiddenCalls(b, c, 0, 0))
			checkFails(t, why, hiddenCalls(b, c, 6, 77))
		}
		if !slices.Equal(before, b.Jumps) {
			t.Error(why, "modified:", b.Jumps)
		}
	}
	// Boards with two jumps or too many squares are some, but not hidden.
	for _, text := range []string{example, "3d2/0;1>0;2>3", "3d2/1;1>3;2>3", "11d2/0", "11d2/2;1>3", "100d8/1"} {
		b := board(t, text)
		for _, c := range clues {
			checkFails(t, "not hidden", hiddenCalls(b, c, 0, 0))
		}
		checkFails(t, "not hidden", hiddenCalls(b, impl.Clue{}, 6, 9999))
	}
}

func TestPuzzlesThatThereAreDoNotFail(t *testing.T) {
	for i, p := range seededPuzzles(100, 38) {
		mayFail := []string{"FirstSolution", "SureOver", "BestClue", "HarderPuzzle"}
		calls := slices.DeleteFunc(puzzleOnlyCalls(p), func(c call) bool { return slices.Contains(mayFail, c.name) })
		checkAllSucceed(t, "puzzle", calls)
		if n := len(p.Clues); n > 0 && n < 6 {
			checkAllSucceed(t, "clue", clueCalls(p, n-1, seededPuzzleClue(p, i)))
		}
		checkAllSucceed(t, "size", sizeCalls(p.Squares, p.Faces, seededPuzzleClue(p, i)))
	}
	for i, b := range seededHidden(100, 39) {
		c := seededPuzzleClue(impl.Puzzle{Squares: b.Squares, Faces: b.Faces}, i)
		checkAllSucceed(t, "hidden board", hiddenCalls(b, c, i%7, i*100))
	}
}

func TestGreatestNumbersOfPuzzlesDoNotPanic(t *testing.T) {
	numbers := []int{math.MinInt, -1, 0, 1, 2, 6, 10, math.MaxInt}
	for _, x := range numbers {
		for _, y := range numbers {
			for _, z := range numbers {
				for kind := -1; kind <= 6; kind++ {
					c := impl.Clue{Kind: kind, A: x, B: y, C: z}
					puzzleCalls(impl.Puzzle{Squares: 3, Faces: 2, Clues: []impl.Clue{c, c}})
					clueCalls(puzzle(t, "3d2:0.0.0.0"), x, c)
					sizeCalls(y, z, c)
					hiddenCalls(board(t, "10d8/2;9>0"), c, y, z)
				}
				puzzleCalls(impl.Puzzle{Squares: x, Faces: y, Clues: []impl.Clue{{C: z}}})
				hiddenCalls(impl.Board{Squares: x, Faces: y, Over: z, Jumps: []impl.Jump{{From: y, To: z}}}, impl.Clue{}, 6, 1)
			}
		}
	}
	for _, s := range []string{":", ",", ".", "9", "d", "0.", "0.0.0.0,", "3d2:", "-"} {
		impl.ParsePuzzle(strings.Repeat(s, 100000))
		impl.ParsePuzzle("3d2:" + strings.Repeat(s, 100000))
		impl.ParsePuzzle("3d2:0.0.0.0," + strings.Repeat(s, 100000))
		impl.ParsePuzzle("3d2:0.0.0." + strings.Repeat(s, 100000))
		impl.ParsePuzzle("3d" + strings.Repeat(s, 100000) + ":")
		impl.ParsePuzzle(strings.Repeat(s, 100000) + "d2:")
	}
	for k := range 256 {
		impl.ParsePuzzle(string([]byte{byte(k)}) + "3d2:0.0.0.0")
		impl.ParsePuzzle("3d2:0.0.0.0" + string([]byte{byte(k)}))
	}
}

// scratchPuzzles overwrites every list of some results, those of puzzles and
// of several boards among them.
func scratchPuzzles(calls []call) {
	scratchResults(calls)
	for _, c := range calls {
		for _, r := range c.results {
			switch x := r.(type) {
			case impl.Puzzle:
				scratch(x.Clues, impl.Clue{Kind: -9})
			case []impl.Board:
				for _, b := range x {
					scratch(b.Jumps, impl.Jump{From: -9, To: -9})
				}
				scratch(x, impl.Board{Squares: -9})
			}
		}
	}
}

// manyPuzzles returns puzzles whose clues cannot, and can be taken out.
func manyPuzzles(t *testing.T) []impl.Puzzle {
	puzzles := seededPuzzles(60, 40)
	for _, text := range []string{"3d2:", "1d1:0.0.0.2", "3d2:0.0.0.0,1.0.1.3", "3d2:1.0.1.3,0.0.0.0,1.0.1.3", "1d2:0.0.0.1,5.0.1.0,4.0.0.0"} {
		puzzles = append(puzzles, puzzle(t, text))
	}
	return puzzles
}

func TestPuzzlesShareNoMemory(t *testing.T) {
	for i, p := range manyPuzzles(t) {
		var room []impl.Clue
		p.Clues, room = marked(p.Clues, impl.Clue{Kind: -7})
		before := slices.Clone(room)
		b := modelHidden(p.Squares, p.Faces)[i%3]
		var places []impl.Jump
		b.Jumps, places = marked(b.Jumps, impl.Jump{From: -7, To: -7})
		placesBefore := slices.Clone(places)
		c := seededPuzzleClue(p, i)
		text, ok := impl.PuzzleText(p)
		if !ok {
			t.Fatal("no text", p)
		}
		all := func() []call {
			calls := append(puzzleOnlyCalls(p), hiddenCalls(b, c, 6, i)...)
			for k := range len(p.Clues) + 1 {
				calls = append(calls, clueCalls(p, k, c)...)
			}
			return append(calls, made("ParsePuzzle")(impl.ParsePuzzle(text)))
		}
		kept := all()
		scratchPuzzles(all())
		if !reflect.DeepEqual(kept, all()) {
			t.Error("a result is shared:", text)
		}
		if !slices.Equal(room, before) || !slices.Equal(places, placesBefore) {
			t.Error("an argument is shared or modified:", text, room, places)
		}
	}
}

func TestArgumentsOfPuzzlesAreNotModified(t *testing.T) {
	for i, p := range manyPuzzles(t) {
		var room []impl.Clue
		p.Clues, room = marked(p.Clues, impl.Clue{Kind: -7})
		before := slices.Clone(room)
		puzzleOnlyCalls(p)
		for k := range len(p.Clues) {
			clueCalls(p, k, seededPuzzleClue(p, i))
		}
		if !slices.Equal(room, before) {
			t.Error("modified:", room, "was", before)
		}
	}
}

func TestBoardsOfOneResultShareNoMemory(t *testing.T) {
	for _, text := range []string{"3d2:", "10d8:", "3d2:4.1.0.1", "4d3:4.2.0.1,4.3.0.0"} {
		boards, ok := impl.Solutions(puzzle(t, text))
		if !ok {
			t.Fatal("fails", text)
		}
		for i, b := range boards {
			var others [][]impl.Jump
			for _, other := range boards {
				others = append(others, slices.Clone(other.Jumps))
			}
			scratch(b.Jumps, impl.Jump{From: -9, To: -9})
			for k, other := range boards {
				if k != i && !slices.Equal(other.Jumps, others[k]) {
					t.Fatal("shared:", text, i, k)
				}
			}
		}
	}
}
