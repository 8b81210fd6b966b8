package tests

import (
	"math"
	"reflect"
	"slices"
	"strconv"
	"strings"
	"testing"

	"loop.example/g01306/impl"
)

// Promise 9: solutions fit all clues, and harder puzzles are solved by the same board.

// checkClue wants that c is a clue, or that it is none.
func checkClue(t *testing.T, squares int, faces int, c impl.Clue, want bool) {
	t.Helper()
	if impl.IsClue(squares, faces, c) != want {
		t.Errorf("IsClue %d %d %v: not %v", squares, faces, c, want)
	}
}

// checkIs wants a bool.
func checkIs(t *testing.T, what string, want bool) func(is bool, ok bool) {
	return func(is bool, ok bool) {
		t.Helper()
		if is != want || !ok {
			t.Errorf("%s: got %v, %v, want %v", what, is, ok, want)
		}
	}
}

// checkFits wants that a board with a text fits a clue, or that it does not.
func checkFits(t *testing.T, text string, c impl.Clue, want bool) {
	t.Helper()
	checkIs(t, "DoesFit "+text, want)(impl.DoesFit(c, board(t, text)))
}

// checkTells wants that a board with a text fits a clue just if its C is told.
func checkTells(t *testing.T, text string, kind int, a int, b int, told int) {
	t.Helper()
	with := board(t, text)
	for c := -1; c <= 11; c++ {
		if clue := (impl.Clue{Kind: kind, A: a, B: b, C: c}); modelIsClue(with.Squares, with.Faces, clue) {
			checkFits(t, text, clue, c == told)
		}
	}
}

// checkSolutions wants the solutions of a puzzle with these texts.
func checkSolutions(t *testing.T, p impl.Puzzle, want ...string) {
	t.Helper()
	boards, ok := impl.Solutions(p)
	var texts []string
	for _, b := range boards {
		text, fine := impl.BoardText(b)
		ok = ok && fine
		texts = append(texts, text)
	}
	checkList(t, "Solutions", texts, ok, want...)
	checkNumber(t, "CountSolutions", len(want))(impl.CountSolutions(p))
	checkIs(t, "IsSolved", len(want) == 1)(impl.IsSolved(p))
	b, ok := impl.FirstSolution(p)
	if len(want) > 0 {
		checkBoard(t, "FirstSolution", b, ok, want[0])
		return
	}
	checkFails(t, "no solution", solutionCalls(p))
}

// solutionCalls calls what fails if there is no solution.
func solutionCalls(p impl.Puzzle) []call {
	return []call{
		made("FirstSolution")(impl.FirstSolution(p)),
		made("SureOver")(impl.SureOver(p)),
		made("HarderPuzzle")(impl.HarderPuzzle(p)),
	}
}

// checkPuzzleIs wants the puzzle with a text.
func checkPuzzleIs(t *testing.T, what string, want string) func(p impl.Puzzle, ok bool) {
	return func(p impl.Puzzle, ok bool) {
		t.Helper()
		text, fine := impl.PuzzleText(p)
		if !ok || !fine || text != want {
			t.Errorf("%s: got %+v, %v, want %s", what, p, ok, want)
		}
	}
}

// checkHarder wants what is left of a puzzle with a text.
func checkHarder(t *testing.T, text string, want string) {
	t.Helper()
	checkPuzzleIs(t, "HarderPuzzle "+text, want)(impl.HarderPuzzle(puzzle(t, text)))
}

func TestExampleOfPuzzles(t *testing.T) {
	checkNumber(t, "HiddenBoards", 21)(impl.HiddenBoards(3, 2))
	p := puzzle(t, "3d2:0.0.0.0,1.0.1.3")
	checkSolutions(t, p, "3d2/0;1>3")
	checkListOf(t, "LeftByClues", 21, 7, 1)(impl.LeftByClues(p))
	checkNumber(t, "SureOver", 0)(impl.SureOver(p))
	checkListOf(t, "NeedlessClues")(impl.NeedlessClues(p))
	checkNumber(t, "BestClue", 1)(impl.BestClue(p))
	checkHarder(t, "3d2:0.0.0.0,1.0.1.3", "3d2:0.0.0.0,1.0.1.3")
	plain := puzzle(t, "3d2:0.0.0.0,4.1.0.0,4.2.0.0")
	checkSolutions(t, plain, "3d2/0")
	checkListOf(t, "LeftByClues", 21, 7, 4, 1)(impl.LeftByClues(plain))
}

func TestPuzzleWithNoClue(t *testing.T) {
	p := puzzle(t, "3d2:")
	if len(p.Clues) != 0 || !impl.IsPuzzle(p) {
		t.Error("clues", p)
	}
	checkSolutions(t, p,
		"3d2/0", "3d2/0;1>0", "3d2/0;1>2", "3d2/0;1>3", "3d2/0;2>0", "3d2/0;2>1", "3d2/0;2>3",
		"3d2/1", "3d2/1;1>0", "3d2/1;1>2", "3d2/1;1>3", "3d2/1;2>0", "3d2/1;2>1", "3d2/1;2>3",
		"3d2/2", "3d2/2;1>0", "3d2/2;1>2", "3d2/2;1>3", "3d2/2;2>0", "3d2/2;2>1", "3d2/2;2>3")
	checkListOf(t, "LeftByClues", 21)(impl.LeftByClues(p))
	checkListOf(t, "NeedlessClues")(impl.NeedlessClues(p))
	checkNumber(t, "SureOver", -1)(impl.SureOver(p))
	checkFails(t, "no clue", []call{
		made("BestClue")(impl.BestClue(p)),
		made("HarderPuzzle")(impl.HarderPuzzle(p)),
		made("DropClue")(impl.DropClue(p, 0)),
		made("DropClue")(impl.DropClue(p, -1)),
	})
	checkPuzzleIs(t, "AddClue", "3d2:0.0.0.2")(impl.AddClue(p, impl.Clue{C: 2}))
	checkPuzzleIs(t, "MakePuzzle", "3d2:")(impl.MakePuzzle(board(t, "3d2/1;1>3"), 0, 77))
}

func TestPuzzleWithMostClues(t *testing.T) {
	text := "3d2:4.0.0.0,4.1.0.1,4.2.0.0,4.3.0.0,0.0.0.1,5.1.1.2"
	p := puzzle(t, text)
	checkSolutions(t, p, "3d2/1;1>2")
	checkListOf(t, "LeftByClues", 21, 21, 9, 9, 9, 3, 1)(impl.LeftByClues(p))
	checkListOf(t, "NeedlessClues", 0, 1, 2, 3)(impl.NeedlessClues(p))
	checkHarder(t, text, "3d2:0.0.0.1,5.1.1.2")
	for _, c := range allClues(3, 2) {
		checkFails(t, "most clues", []call{made("AddClue")(impl.AddClue(p, c))})
	}
	p.Clues = append(p.Clues, impl.Clue{})
	if impl.IsPuzzle(p) {
		t.Error("too many clues", p)
	}
	checkFails(t, "too many clues", puzzleCalls(p))
	checkFails(t, "too many clues", []call{made("ParsePuzzle")(impl.ParsePuzzle(text + ",0.0.0.0"))})
	p.Clues = p.Clues[:5]
	checkPuzzleIs(t, "AddClue", "3d2:4.0.0.0,4.1.0.1,4.2.0.0,4.3.0.0,0.0.0.1,0.0.0.0")(impl.AddClue(p, impl.Clue{}))
}

func TestNumbersOfHiddenBoards(t *testing.T) {
	for squares := 1; squares <= 10; squares++ {
		for faces := 1; faces <= 8; faces++ {
			checkNumber(t, "HiddenBoards", 3+3*squares*(squares-1))(impl.HiddenBoards(squares, faces))
			p := impl.Puzzle{Squares: squares, Faces: faces}
			boards, ok := impl.Solutions(p)
			if want := modelHidden(squares, faces); !ok || !slices.EqualFunc(boards, want, sameBoard) {
				t.Error("Solutions", squares, faces, boards, ok, "want", want)
			}
		}
	}
	checkNumber(t, "one square", 3)(impl.HiddenBoards(1, 8))
	checkNumber(t, "most squares", 273)(impl.HiddenBoards(10, 1))
	for _, n := range around(1, 10) {
		checkFails(t, "squares", []call{made("HiddenBoards")(impl.HiddenBoards(n, 2))})
		checkFails(t, "squares", puzzleCalls(impl.Puzzle{Squares: n, Faces: 2}))
	}
	for _, n := range around(1, 8) {
		checkFails(t, "faces", []call{made("HiddenBoards")(impl.HiddenBoards(3, n))})
		checkFails(t, "faces", puzzleCalls(impl.Puzzle{Squares: 3, Faces: n}))
	}
}

func TestPuzzlesOfOneSquare(t *testing.T) {
	for _, faces := range []string{"1", "8"} {
		checkSolutions(t, puzzle(t, "1d"+faces+":"), "1d"+faces+"/0", "1d"+faces+"/1", "1d"+faces+"/2")
		checkSolutions(t, puzzle(t, "1d"+faces+":0.0.0.2"), "1d"+faces+"/2")
		checkSolutions(t, puzzle(t, "1d"+faces+":4.0.0.1"))
		checkSolutions(t, puzzle(t, "1d"+faces+":2.0.0.2"))
	}
	checkSolutions(t, puzzle(t, "1d8:1.0.8.1"), "1d8/1")
	// For Over 2 a 2 leads to the end and back to the start.
	checkSolutions(t, puzzle(t, "1d8:5.20.2.0"), "1d8/0", "1d8/2")
	checkSolutions(t, puzzle(t, "1d8:1.0.2.0,0.0.0.2"), "1d8/2")
}

func TestPuzzleOfMostSquares(t *testing.T) {
	p := puzzle(t, "10d1:2.0.0.10")
	// All squares are on the one way to the end, so that any jump would change
	// how many throws it has.
	checkSolutions(t, p, "10d1/0", "10d1/1", "10d1/2")
	checkSolutions(t, puzzle(t, "10d8:0.0.0.2,5.1.1.10"), "10d8/2;1>10")
	checkSolutions(t, puzzle(t, "10d8:0.0.0.1,4.9.0.1,1.8.1.0"), "10d8/1;9>0")
}

func TestKindsOfClues(t *testing.T) {
	for _, c := range []impl.Clue{{}, {Kind: 1, B: 1}, {Kind: 2}, {Kind: 3}, {Kind: 4}, {Kind: 5, B: 1}} {
		checkClue(t, 3, 2, c, true)
		for _, kind := range []int{math.MinInt, -1, 6, 7, math.MaxInt} {
			checkClue(t, 3, 2, impl.Clue{Kind: kind, A: c.A, B: c.B, C: c.C}, false)
		}
	}
}

func TestNumbersThatAreZeroInClues(t *testing.T) {
	for _, n := range []int{math.MinInt, -1, 1, 2, math.MaxInt} {
		for _, kind := range []int{0, 2, 3} {
			checkClue(t, 3, 2, impl.Clue{Kind: kind, A: n}, false)
		}
		for _, kind := range []int{0, 2, 3, 4} {
			checkClue(t, 3, 2, impl.Clue{Kind: kind, B: n}, false)
		}
		if p, ok := impl.ParsePuzzle("3d2:4.1." + strconv.Itoa(n) + ".1"); ok || !isZero(reflect.ValueOf(p)) {
			t.Error("ParsePuzzle", p, ok)
		}
	}
}

// checkRange wants that clues with a number in least..most are some, and those
// with one around it none.
func checkRange(t *testing.T, squares int, faces int, least int, most int, with func(n int) impl.Clue) {
	t.Helper()
	for n := least; n <= most; n++ {
		checkClue(t, squares, faces, with(n), true)
	}
	for _, n := range around(least, most) {
		checkClue(t, squares, faces, with(n), false)
	}
}

func TestRangesOfNumbersOfClues(t *testing.T) {
	for _, squares := range []int{1, 3, 10} {
		for _, faces := range []int{1, 2, 8} {
			check := func(least int, most int, with func(n int) impl.Clue) {
				t.Helper()
				checkRange(t, squares, faces, least, most, with)
			}
			check(0, 2, func(n int) impl.Clue { return impl.Clue{Kind: 0, C: n} })
			check(0, squares, func(n int) impl.Clue { return impl.Clue{Kind: 1, A: n, B: 1} })
			check(1, faces, func(n int) impl.Clue { return impl.Clue{Kind: 1, B: n} })
			check(0, squares, func(n int) impl.Clue { return impl.Clue{Kind: 1, B: 1, C: n} })
			check(0, 10, func(n int) impl.Clue { return impl.Clue{Kind: 2, C: n} })
			check(0, 10, func(n int) impl.Clue { return impl.Clue{Kind: 3, C: n} })
			check(0, squares, func(n int) impl.Clue { return impl.Clue{Kind: 4, A: n} })
			check(0, 1, func(n int) impl.Clue { return impl.Clue{Kind: 4, A: 1, C: n} })
			check(0, 20, func(n int) impl.Clue { return impl.Clue{Kind: 5, A: n, B: 1} })
			check(1, faces, func(n int) impl.Clue { return impl.Clue{Kind: 5, B: n} })
			check(0, squares, func(n int) impl.Clue { return impl.Clue{Kind: 5, B: 1, C: n} })
		}
	}
}

func TestClueOfOver(t *testing.T) {
	for over := range 3 {
		checkTells(t, "3d2/"+strconv.Itoa(over)+";1>3", 0, 0, 0, over)
		checkTells(t, "1d1/"+strconv.Itoa(over), 0, 0, 0, over)
	}
	for _, c := range []int{-1, 3} {
		checkFails(t, "Over", []call{made("DoesFit")(impl.DoesFit(impl.Clue{C: c}, board(t, "3d2/0")))})
	}
}

func TestClueOfThrow(t *testing.T) {
	checkTells(t, "3d2/0;1>3", 1, 0, 1, 3)
	checkTells(t, "3d2/0;1>3", 1, 0, 2, 2)
	checkTells(t, "3d2/0", 1, 2, 2, 2)
	checkTells(t, "3d2/1", 1, 2, 2, 3)
	checkTells(t, "4d2/2", 1, 3, 2, 3)
	checkTells(t, "4d3/2", 1, 3, 3, 2)
	checkTells(t, "4d3/2;2>0", 1, 3, 3, 0)
	checkTells(t, "1d8/2", 1, 0, 8, 0)
	// A token on the end stays there.
	checkTells(t, "3d2/0;1>3", 1, 3, 2, 3)
	checkTells(t, "3d2/2", 1, 3, 1, 3)
	// On a square at which a jump begins there is no token.
	for c := range 4 {
		checkFits(t, "3d2/0;1>3", impl.Clue{Kind: 1, A: 1, B: 1, C: c}, false)
		checkFits(t, "3d2/1;2>0", impl.Clue{Kind: 1, A: 2, B: 2, C: c}, false)
	}
}

func TestClueOfFewestThrows(t *testing.T) {
	checkTells(t, "3d2/0", 2, 0, 0, 2)
	checkTells(t, "3d2/0;1>3", 2, 0, 0, 1)
	checkTells(t, "10d1/0", 2, 0, 0, 10)
	checkTells(t, "1d1/2", 2, 0, 0, 1)
	// No throws lead to the end.
	checkTells(t, "3d1/0;1>0", 2, 0, 0, 0)
	checkTells(t, "10d1/1;9>0", 2, 0, 0, 0)
	checkFails(t, "too many", []call{made("DoesFit")(impl.DoesFit(impl.Clue{Kind: 2, C: 11}, board(t, "10d1/0")))})
}

func TestClueOfSquaresWithoutHope(t *testing.T) {
	checkTells(t, "3d2/0", 3, 0, 0, 0)
	checkTells(t, "3d2/0;1>3", 3, 0, 0, 0)
	// From 2 the end is reached still, and at 1 a jump begins.
	checkTells(t, "3d1/0;1>0", 3, 0, 0, 1)
	checkTells(t, "10d1/2;9>0", 3, 0, 0, 9)
	checkTells(t, "10d1/2;9>10", 3, 0, 0, 0)
	checkTells(t, "10d1/0;5>4", 3, 0, 0, 5)
}

func TestClueOfJump(t *testing.T) {
	checkTells(t, "3d2/0;1>3", 4, 1, 0, 1)
	checkTells(t, "3d2/0;2>0", 4, 2, 0, 1)
	for _, text := range []string{"3d2/0;1>3", "3d2/1;2>0", "3d2/2"} {
		// None begins at the start or at the end.
		checkTells(t, text, 4, 0, 0, 0)
		checkTells(t, text, 4, 3, 0, 0)
		for _, a := range []int{-1, 4} {
			checkFails(t, "no square", []call{
				made("DoesFit")(impl.DoesFit(impl.Clue{Kind: 4, A: a}, board(t, text))),
				made("DoesFit")(impl.DoesFit(impl.Clue{Kind: 4, A: a, C: 1}, board(t, text))),
			})
		}
	}
	checkTells(t, "3d2/0;1>3", 4, 2, 0, 0)
	checkTells(t, "3d2/2", 4, 1, 0, 0)
	checkSolutions(t, puzzle(t, "3d2:4.0.0.1"))
	checkSolutions(t, puzzle(t, "3d2:4.3.0.1"))
}

func TestClueOfPlay(t *testing.T) {
	for face := 1; face <= 2; face++ {
		checkTells(t, "3d2/0", 5, 0, face, 0)
		checkTells(t, "3d2/2;1>3", 5, 0, face, 0)
	}
	checkTells(t, "3d2/0", 5, 1, 1, 1)
	checkTells(t, "3d2/0", 5, 2, 1, 2)
	// It is at the end before its last throw.
	checkTells(t, "3d2/0", 5, 3, 1, 3)
	checkTells(t, "3d2/0", 5, 4, 1, 3)
	checkTells(t, "3d2/2", 5, 4, 1, 3)
	checkTells(t, "3d2/0", 5, 20, 1, 3)
	checkTells(t, "3d2/2;1>3", 5, 20, 1, 3)
	// By 2 it never is.
	checkTells(t, "3d2/0", 5, 20, 2, 2)
	checkTells(t, "3d2/1", 5, 20, 2, 3)
	checkTells(t, "3d2/2", 5, 20, 2, 2)
	// It goes to 3, to the end and back to 2, to the end and back to 3, and so on.
	checkTells(t, "4d3/2", 5, 19, 3, 3)
	checkTells(t, "4d3/2", 5, 20, 3, 2)
	checkTells(t, "10d1/0;9>0", 5, 8, 1, 8)
	checkTells(t, "10d1/0;9>0", 5, 9, 1, 0)
	checkTells(t, "10d1/0;9>0", 5, 20, 1, 2)
	checkFails(t, "too many throws", []call{made("DoesFit")(impl.DoesFit(impl.Clue{Kind: 5, A: 21, B: 1, C: 3}, board(t, "3d2/0")))})
}

func TestPuzzlesThatNoBoardFits(t *testing.T) {
	p := puzzle(t, "3d2:0.0.0.0,0.0.0.1")
	checkSolutions(t, p)
	checkListOf(t, "LeftByClues", 21, 7, 0)(impl.LeftByClues(p))
	checkListOf(t, "NeedlessClues")(impl.NeedlessClues(p))
	checkNumber(t, "BestClue", 0)(impl.BestClue(p))
	p = puzzle(t, "3d2:1.3.1.0,0.0.0.1,1.3.2.0")
	checkSolutions(t, p)
	checkListOf(t, "LeftByClues", 21, 0, 0, 0)(impl.LeftByClues(p))
	checkListOf(t, "NeedlessClues", 0, 1, 2)(impl.NeedlessClues(p))
	checkSolutions(t, puzzle(t, "3d2:3.0.0.10"))
	checkSolutions(t, puzzle(t, "10d8:3.0.0.10"))
	checkSolutions(t, puzzle(t, "3d2:2.0.0.4"))
}

func TestPuzzlesThatSeveralBoardsFit(t *testing.T) {
	p := puzzle(t, "3d2:1.0.1.3")
	checkSolutions(t, p, "3d2/0;1>3", "3d2/1;1>3", "3d2/2;1>3")
	checkNumber(t, "SureOver", -1)(impl.SureOver(p))
	checkFails(t, "not solved", []call{made("HarderPuzzle")(impl.HarderPuzzle(p))})
	for over := range 3 {
		of := strconv.Itoa(over)
		p = puzzle(t, "3d2:0.0.0."+of+",4.2.0.0")
		checkSolutions(t, p, "3d2/"+of, "3d2/"+of+";1>0", "3d2/"+of+";1>2", "3d2/"+of+";1>3")
		checkNumber(t, "SureOver", over)(impl.SureOver(p))
		checkFails(t, "not solved", []call{made("HarderPuzzle")(impl.HarderPuzzle(p))})
	}
	// Two of the three share their Over, at either side.
	p = puzzle(t, "2d2:1.1.2.1")
	checkSolutions(t, p, "2d2/0", "2d2/2")
	checkNumber(t, "SureOver", -1)(impl.SureOver(p))
	p = puzzle(t, "2d2:1.1.2.2")
	checkSolutions(t, p, "2d2/1")
	checkNumber(t, "SureOver", 1)(impl.SureOver(p))
}

func TestNeedlessClues(t *testing.T) {
	checkListOf(t, "the same", 0, 1)(impl.NeedlessClues(puzzle(t, "3d2:0.0.0.0,0.0.0.0")))
	checkListOf(t, "the same of three", 0, 2)(impl.NeedlessClues(puzzle(t, "3d2:0.0.0.0,1.0.1.3,0.0.0.0")))
	checkListOf(t, "all say nothing", 0, 1, 2)(impl.NeedlessClues(puzzle(t, "3d2:5.0.1.0,4.0.0.0,1.3.1.3")))
	checkListOf(t, "another one says more", 0)(impl.NeedlessClues(puzzle(t, "3d2:4.2.0.0,4.1.0.1")))
	checkListOf(t, "one alone")(impl.NeedlessClues(puzzle(t, "3d2:4.2.0.0")))
	checkListOf(t, "one alone that says nothing", 0)(impl.NeedlessClues(puzzle(t, "3d2:4.3.0.0")))
	checkListOf(t, "the last one", 2)(impl.NeedlessClues(puzzle(t, "3d2:0.0.0.1,4.1.0.1,4.3.0.0")))
}

func TestIndicesOfClues(t *testing.T) {
	p := puzzle(t, "3d2:0.0.0.0,1.0.1.3,4.2.0.0")
	checkPuzzleIs(t, "DropClue", "3d2:1.0.1.3,4.2.0.0")(impl.DropClue(p, 0))
	checkPuzzleIs(t, "DropClue", "3d2:0.0.0.0,4.2.0.0")(impl.DropClue(p, 1))
	checkPuzzleIs(t, "DropClue", "3d2:0.0.0.0,1.0.1.3")(impl.DropClue(p, 2))
	checkPuzzleIs(t, "DropClue the one", "3d2:")(impl.DropClue(puzzle(t, "3d2:0.0.0.0"), 0))
	for _, k := range around(0, 2) {
		checkFails(t, "no such clue", []call{made("DropClue")(impl.DropClue(p, k))})
	}
	checkPuzzleIs(t, "AddClue", "3d2:0.0.0.0,1.0.1.3,4.2.0.0,0.0.0.0")(impl.AddClue(p, impl.Clue{}))
}

func TestBestClues(t *testing.T) {
	checkNumber(t, "the one", 0)(impl.BestClue(puzzle(t, "3d2:0.0.0.0")))
	checkNumber(t, "the first of two", 0)(impl.BestClue(puzzle(t, "3d2:0.0.0.2,0.0.0.1")))
	checkNumber(t, "the first of two later ones", 1)(impl.BestClue(puzzle(t, "3d2:4.0.0.0,1.0.1.3,1.0.2.1")))
	// Together with the first one the last one would leave none.
	checkNumber(t, "alone", 1)(impl.BestClue(puzzle(t, "3d2:4.1.0.1,0.0.0.1,4.1.0.0")))
	checkNumber(t, "the last one", 2)(impl.BestClue(puzzle(t, "3d2:0.0.0.1,4.3.0.0,1.3.2.1")))
}

func TestHarderPuzzles(t *testing.T) {
	// None goes.
	checkHarder(t, "3d2:1.0.1.3,0.0.0.0", "3d2:1.0.1.3,0.0.0.0")
	checkHarder(t, "1d1:0.0.0.2", "1d1:0.0.0.2")
	// Some go, from the first one on.
	checkHarder(t, "3d2:1.0.1.3,0.0.0.0,1.0.1.3", "3d2:0.0.0.0,1.0.1.3")
	checkHarder(t, "3d2:4.2.0.0,1.0.1.3,4.1.0.1,0.0.0.0", "3d2:1.0.1.3,0.0.0.0")
	checkHarder(t, "3d2:0.0.0.0,4.1.0.1,1.0.1.3", "3d2:0.0.0.0,1.0.1.3")
	// All but one go: the last one, the first one, and one between.
	checkHarder(t, "1d2:0.0.0.1,0.0.0.1,0.0.0.1", "1d2:0.0.0.1")
	checkHarder(t, "1d2:0.0.0.1,5.0.1.0,4.0.0.0,4.1.0.0,2.0.0.1,3.0.0.0", "1d2:0.0.0.1")
	checkHarder(t, "1d2:5.0.1.0,1.0.2.1,4.0.0.0", "1d2:1.0.2.1")
	// They are not solved, by no board or by several.
	for _, text := range []string{"3d2:", "3d2:1.0.1.3", "3d2:0.0.0.0,0.0.0.1", "3d2:1.3.1.0,0.0.0.1"} {
		checkFails(t, "not solved", []call{made("HarderPuzzle")(impl.HarderPuzzle(puzzle(t, text)))})
	}
}

func TestPuzzlesThatAreMade(t *testing.T) {
	for _, c := range []struct {
		board string
		seed  int
		want  string
	}{
		{"3d2/0;1>3", 0, "3d2:5.5.2.2,5.5.2.2,2.0.0.1,3.0.0.0,5.2.1.3,1.0.1.3"},
		{"3d2/0;1>3", 9999, "3d2:3.0.0.0,4.2.0.0,3.0.0.0,4.0.0.0,2.0.0.1,2.0.0.1"},
		{"3d2/0;1>3", 1, "3d2:0.0.0.0,5.2.1.3,0.0.0.0,4.1.0.1,3.0.0.0,4.1.0.1"},
		{"10d3/2;3>8", 4321, "10d3:5.2.3.9,5.7.1.10,2.0.0.2,2.0.0.2,4.8.0.0,3.0.0.0"},
		{"10d1/0;9>0", 9999, "10d1:3.0.0.9,4.9.0.1,3.0.0.9,4.3.0.0,2.0.0.0,2.0.0.0"},
		{"1d8/1", 0, "1d8:5.5.6.1,5.5.6.1,2.0.0.1,3.0.0.0,5.2.3.1,1.0.5.1"},
		// The last clue would tell of a throw on the square 2.
		{"7d6/1;2>6", 0, "7d6:5.5.4.7,5.5.2.7,2.0.0.2,3.0.0.0,5.2.3.6,4.2.0.1"},
		{"7d6/1;3>6", 0, "7d6:5.5.4.7,5.5.2.7,2.0.0.2,3.0.0.0,5.2.3.7,1.2.1.6"},
	} {
		b := board(t, c.board)
		for clues := range 7 {
			want := strings.Join(strings.Split(c.want, ",")[:clues], ",")
			if clues == 0 {
				want = c.want[:strings.Index(c.want, ":")+1]
			}
			checkPuzzleIs(t, "MakePuzzle", want)(impl.MakePuzzle(b, clues, c.seed))
		}
		for _, n := range around(0, 6) {
			checkFails(t, "clues", []call{made("MakePuzzle")(impl.MakePuzzle(b, n, c.seed))})
		}
		for _, seed := range around(0, 9999) {
			checkFails(t, "seed", []call{made("MakePuzzle")(impl.MakePuzzle(b, 6, seed)), made("MakePuzzle")(impl.MakePuzzle(b, 0, seed))})
		}
	}
}

func TestPuzzlesAreMadeAsByTheModel(t *testing.T) {
	for _, text := range []string{"1d1/0", "10d8/2;9>0", "7d6/1;2>6"} {
		b := board(t, text)
		for seed := range 10000 {
			checkMade(t, b, 6, seed)
		}
	}
	for i, b := range seededHidden(300, 31) {
		for k := range 7 {
			checkMade(t, b, k, (i*7+k)*4)
			checkMade(t, b, k, 9999-i)
		}
	}
}

// checkMade holds a puzzle that is made against the model, and wants that the
// board fits all its clues.
func checkMade(t *testing.T, b impl.Board, clues int, seed int) {
	t.Helper()
	p, ok := impl.MakePuzzle(b, clues, seed)
	if want := modelMake(b, clues, seed); !ok || !samePuzzle(p, want) {
		t.Errorf("MakePuzzle %v %d %d: got %v, %v, want %v", b, clues, seed, p, ok, want)
	}
	for _, c := range p.Clues {
		checkIs(t, "made", true)(impl.DoesFit(c, b))
	}
	if !impl.IsPuzzle(p) {
		t.Error("made", b, clues, seed, "is no puzzle", p)
	}
}

func TestAllCluesOfSmallBoards(t *testing.T) {
	for squares := 1; squares <= 4; squares++ {
		for faces := 1; faces <= 3; faces++ {
			checkAllClues(t, squares, faces)
		}
	}
	checkAllClues(t, 5, 8)
}

// checkAllClues holds all clues and hidden boards against the model.
func checkAllClues(t *testing.T, squares int, faces int) {
	t.Helper()
	boards := modelHidden(squares, faces)
	for _, c := range allClues(squares, faces) {
		checkClue(t, squares, faces, c, true)
		for _, b := range boards {
			if fits, ok := impl.DoesFit(c, b); !ok || fits != modelFits(b, c) {
				t.Errorf("DoesFit %v %v: got %v, %v", c, b, fits, ok)
			}
		}
	}
}

func TestAllNumbersAroundClues(t *testing.T) {
	for _, squares := range []int{0, 1, 4, 10, 11} {
		for _, faces := range []int{0, 1, 3, 8, 9} {
			for kind := -1; kind <= 6; kind++ {
				checkNumbersAround(t, squares, faces, kind)
			}
		}
	}
}

// checkNumbersAround holds all clues of a kind with numbers up to beyond their
// limits against the model.
func checkNumbersAround(t *testing.T, squares int, faces int, kind int) {
	t.Helper()
	for a := -1; a <= 21; a++ {
		for b := -1; b <= 9; b++ {
			for c := -1; c <= 11; c++ {
				clue := impl.Clue{Kind: kind, A: a, B: b, C: c}
				checkClue(t, squares, faces, clue, modelIsClue(squares, faces, clue))
			}
		}
	}
}

func TestSeededCluesAreAsTheModel(t *testing.T) {
	for i, p := range seededPuzzles(400, 32) {
		boards := modelHidden(p.Squares, p.Faces)
		for k, c := range p.Clues {
			for j := range 5 {
				b := boards[(i*31+k*17+j*11)%len(boards)]
				checkIs(t, "DoesFit", modelFits(b, c))(impl.DoesFit(c, b))
			}
		}
	}
}

func TestSeededPuzzlesAreAsTheModel(t *testing.T) {
	none, one, several := 0, 0, 0
	for _, p := range seededPuzzles(600, 33) {
		switch checkPuzzle(t, p) {
		case 0:
			none++
		case 1:
			one++
		default:
			several++
		}
	}
	if none < 20 || one < 20 || several < 20 {
		t.Error("too few puzzles of some kind:", none, one, several)
	}
}

// checkPuzzle holds all that is told of a puzzle against the model. It returns
// how many solutions there are.
func checkPuzzle(t *testing.T, p impl.Puzzle) int {
	t.Helper()
	if !impl.IsPuzzle(p) {
		t.Fatal("is no puzzle:", p)
	}
	all := modelFitsOf(p)
	every := 1<<len(p.Clues) - 1
	var solutions []impl.Board
	for _, fit := range all {
		if fit.clues == every {
			solutions = append(solutions, fit.board)
		}
	}
	boards, ok := impl.Solutions(p)
	if !ok || !slices.EqualFunc(boards, solutions, sameBoard) {
		t.Errorf("Solutions %v: got %v, %v, want %v", p, boards, ok, solutions)
	}
	checkNumber(t, "CountSolutions", len(solutions))(impl.CountSolutions(p))
	checkIs(t, "IsSolved", len(solutions) == 1)(impl.IsSolved(p))
	checkByClues(t, p, all)
	checkOfSolutions(t, p, solutions)
	return len(solutions)
}

// checkByClues holds what is told of single clues and of the first ones against
// the model.
func checkByClues(t *testing.T, p impl.Puzzle, all []modelFit) {
	t.Helper()
	every := 1<<len(p.Clues) - 1
	left := []int{len(all)}
	var needless []int
	best, fewest := 0, len(all)+1
	for k := range p.Clues {
		left = append(left, modelCount(all, 2<<k-1))
		if modelCount(all, every&^(1<<k)) == modelCount(all, every) {
			needless = append(needless, k)
		}
		if n := modelCount(all, 1<<k); n < fewest {
			best, fewest = k, n
		}
	}
	checkListOf(t, "LeftByClues", left...)(impl.LeftByClues(p))
	checkListOf(t, "NeedlessClues", needless...)(impl.NeedlessClues(p))
	checkNumberOrNone(t, "BestClue", best, len(p.Clues) > 0)(impl.BestClue(p))
}

// checkOfSolutions holds what is told of solutions against these.
func checkOfSolutions(t *testing.T, p impl.Puzzle, solutions []impl.Board) {
	t.Helper()
	if len(solutions) == 0 {
		checkFails(t, "no solution", solutionCalls(p))
		return
	}
	if b, ok := impl.FirstSolution(p); !ok || !sameBoard(b, solutions[0]) {
		t.Errorf("FirstSolution %v: got %v, %v", p, b, ok)
	}
	sure := solutions[0].Over
	for _, b := range solutions {
		if b.Over != sure {
			sure = -1
		}
	}
	checkNumber(t, "SureOver", sure)(impl.SureOver(p))
	harder, ok := impl.HarderPuzzle(p)
	if len(solutions) > 1 {
		checkFails(t, "not solved", []call{made("HarderPuzzle")(harder, ok)})
		return
	}
	want := impl.Puzzle{Squares: p.Squares, Faces: p.Faces, Clues: modelHarder(p)}
	if !ok || !samePuzzle(harder, want) {
		t.Errorf("HarderPuzzle %v: got %v, %v, want %v", p, harder, ok, want)
	}
}

func TestSolutionsFitAllClues(t *testing.T) {
	for _, p := range seededPuzzles(150, 34) {
		boards, ok := impl.Solutions(p)
		if !ok {
			t.Fatal("fails", p)
		}
		fitting := 0
		for _, b := range modelHidden(p.Squares, p.Faces) {
			if fitsAll(t, p, b) {
				fitting++
			}
		}
		checkNumber(t, "CountSolutions", fitting)(impl.CountSolutions(p))
		for _, b := range boards {
			if !impl.IsBoard(b) || !fitsAll(t, p, b) {
				t.Error("is no solution:", p, b)
			}
		}
	}
}

// fitsAll reports whether DoesFit tells of all clues that a board fits them.
func fitsAll(t *testing.T, p impl.Puzzle, b impl.Board) bool {
	t.Helper()
	for _, c := range p.Clues {
		fits, ok := impl.DoesFit(c, b)
		if !ok {
			t.Fatal("DoesFit fails", c, b)
		}
		if !fits {
			return false
		}
	}
	return true
}

func TestHarderPuzzlesAreSolvedByTheSameBoard(t *testing.T) {
	byGone := map[string]int{}
	for i, b := range seededHidden(2500, 35) {
		p, ok := impl.MakePuzzle(b, 6, (i*97)%10000)
		solved, fine := impl.IsSolved(p)
		if !ok || !fine {
			t.Fatal("fails", b, p)
		}
		if !solved {
			continue
		}
		harder := checkHarderIsSolved(t, p, b)
		switch len(harder.Clues) {
		case 6:
			byGone["none"]++
		case 1:
			byGone["all but one"]++
		default:
			byGone["some"]++
		}
	}
	if byGone["some"] < 5 || byGone["all but one"] < 5 {
		t.Error("too few puzzles of some kind:", byGone)
	}
}

// checkHarderIsSolved wants that a harder puzzle is solved by the same board,
// and that no clue of it is needless.
func checkHarderIsSolved(t *testing.T, p impl.Puzzle, b impl.Board) impl.Puzzle {
	t.Helper()
	harder, ok := impl.HarderPuzzle(p)
	first, fine := impl.FirstSolution(harder)
	if !ok || !fine || !sameBoard(first, b) {
		t.Errorf("HarderPuzzle %v: got %v, %v, solved by %v, %v, want %v", p, harder, ok, first, fine, b)
	}
	checkIs(t, "IsSolved", true)(impl.IsSolved(harder))
	checkListOf(t, "NeedlessClues of a harder puzzle")(impl.NeedlessClues(harder))
	again, ok := impl.HarderPuzzle(harder)
	if !ok || !samePuzzle(again, harder) {
		t.Error("HarderPuzzle again", harder, again, ok)
	}
	return harder
}

func TestCluesArePutInAndTakenOut(t *testing.T) {
	for i, p := range seededPuzzles(200, 36) {
		c := seededPuzzleClue(p, i)
		with, ok := impl.AddClue(p, c)
		if ok != (len(p.Clues) < 6) {
			t.Fatal("AddClue", p, c, with, ok)
		}
		if !ok {
			continue
		}
		if want := append(slices.Clone(p.Clues), c); !samePuzzle(with, impl.Puzzle{Squares: p.Squares, Faces: p.Faces, Clues: want}) {
			t.Error("AddClue", p, c, with)
		}
		if back, ok := impl.DropClue(with, len(p.Clues)); !ok || !samePuzzle(back, p) {
			t.Error("DropClue", with, back, ok)
		}
		for k := range with.Clues {
			less, ok := impl.DropClue(with, k)
			want := slices.Delete(slices.Clone(with.Clues), k, k+1)
			if !ok || !samePuzzle(less, impl.Puzzle{Squares: p.Squares, Faces: p.Faces, Clues: want}) {
				t.Error("DropClue", with, k, less, ok)
			}
		}
	}
}

// seededPuzzleClue returns one of all clues of a puzzle's boards.
func seededPuzzleClue(p impl.Puzzle, seed int) impl.Clue {
	all := allClues(p.Squares, p.Faces)
	return all[seed*101%len(all)]
}

// checkPuzzleText wants that a puzzle has a text, and the text this puzzle.
func checkPuzzleText(t *testing.T, p impl.Puzzle, want string) {
	t.Helper()
	if text, ok := impl.PuzzleText(p); !ok || text != want {
		t.Errorf("PuzzleText: got %s, %v, want %s", text, ok, want)
	}
	if got, ok := impl.ParsePuzzle(want); !ok || !samePuzzle(got, p) {
		t.Errorf("ParsePuzzle %s: got %+v, %v, want %+v", want, got, ok, p)
	}
}

func TestTextsOfPuzzles(t *testing.T) {
	checkPuzzleText(t, impl.Puzzle{Squares: 1, Faces: 1}, "1d1:")
	checkPuzzleText(t, impl.Puzzle{Squares: 10, Faces: 8, Clues: []impl.Clue{}}, "10d8:")
	checkPuzzleText(t, impl.Puzzle{Squares: 3, Faces: 2, Clues: []impl.Clue{{C: 2}}}, "3d2:0.0.0.2")
	clues := []impl.Clue{{C: 1}, {Kind: 1, A: 10, B: 8, C: 9}, {Kind: 2, C: 10}, {Kind: 3, C: 10}, {Kind: 4, A: 10, C: 1}, {Kind: 5, A: 20, B: 8, C: 10}}
	checkPuzzleText(t, impl.Puzzle{Squares: 10, Faces: 8, Clues: clues}, "10d8:0.0.0.1,1.10.8.9,2.0.0.10,3.0.0.10,4.10.0.1,5.20.8.10")
	for _, p := range seededPuzzles(400, 37) {
		text, ok := impl.PuzzleText(p)
		if want, wanted := modelParsePuzzle(text); !ok || !wanted || !samePuzzle(p, want) {
			t.Errorf("PuzzleText %+v: got %s, %v", p, text, ok)
		}
		checkPuzzleText(t, p, text)
	}
}

func TestTextsThatAreNoPuzzles(t *testing.T) {
	for _, s := range []string{
		"", ":", "d", "d:", "3", "3d", "3d2", "3d:", "d2:", ":3d2", "32:", "3d2::", "3d2:-", "3d2:0", "3d2:0.0", "3d2:0.0.0", "3d2:0.0.0.0.0",
		"3d2:.", "3d2:...", "3d2:,", "3d2:0.0.0.", "3d2:.0.0.0", "3d2:0..0.0", "3d2:0.0..0", "3d2:0.0.0.0.", "3d2:.0.0.0.0",
		"3d2:0.0.0.0,", "3d2:,0.0.0.0", "3d2:0.0.0.0,,0.0.0.0", "3d2:0.0.0.0,0.0.0", "3d2:0.0.0.0;0.0.0.0", "3d2:0,0,0,0", "3d2:0.0.0.0:",
		"3d2:0.0.0.0.0.0.0.0", "3d2:0.0.0.0:0.0.0.0", "3dd2:", "3d2d:", "3d2/0:", "3d2/0;1>3", "3D2:", "3x2:", "3d2:0:0:0:0",
		"03d2:", "3d02:", "003d2:0.0.0.0", "3d2:00.0.0.0", "3d2:0.00.0.0", "3d2:0.0.00.0", "3d2:0.0.0.00", "3d2:4.01.0.0", "3d2:1.0.01.3", "3d2:1.0.1.03",
		"+3d2:", "3d+2:", "3d2:+0.0.0.0", "3d2:0.+0.0.0", "3d2:0.0.+0.0", "3d2:0.0.0.+0", "-3d2:", "3d-2:", "3d2:-0.0.0.0", "3d2:0.-0.0.0", "3d2:0.0.0.-0",
		" 3d2:", "3 d2:", "3d 2:", "3d2 :", "3d2: ", "3d2: 0.0.0.0", "3d2:0.0.0.0 ", "3d2:0. 0.0.0", "3d2:0.0 .0.0", "3d2:0.0.0.0, 0.0.0.0", "3d2:0.0.0.0\n", "\t3d2:",
		"0d2:", "11d2:", "3d0:", "3d9:", "3d2:-1.0.0.0", "3d2:6.0.0.0", "3d2:0.1.0.0", "3d2:0.0.1.0", "3d2:0.0.0.3", "3d2:0.0.0.-1", "3d2:1.4.1.0", "3d2:1.0.0.0",
		"3d2:1.0.3.0", "3d2:1.0.1.4", "3d2:2.1.0.0", "3d2:2.0.1.0", "3d2:2.0.0.11", "3d2:3.1.0.0", "3d2:3.0.1.0", "3d2:3.0.0.11", "3d2:4.4.0.0", "3d2:4.1.1.0",
		"3d2:4.1.0.2", "3d2:5.21.1.0", "3d2:5.0.0.0", "3d2:5.0.3.0", "3d2:5.0.1.4", "3d2:0.0.0.0,6.0.0.0", "3d2:0.0.0.0,0.0.0.0,0.0.0.0,0.0.0.3",
		"3d2:0.0.0.0,0.0.0.0,0.0.0.0,0.0.0.0,0.0.0.0,0.0.0.0,0.0.0.0", "3d2:0.0.0.0,0.0.0.0,0.0.0.0,0.0.0.0,0.0.0.0,0.0.0.0,",
		"3d2:0.0.0.0,0.0.0.0,0.0.0.0,0.0.0.0,0.0.0.0,0.0.0.0,,", "3d2:0.0.0.0,0.0.0.0,0.0.0.0,0.0.0.0,0.0.0.0,0.0.0.0,0.0.0.0,",
		"18446744073709551619d2:", "3d18446744073709551618:", "3d2:0.0.0.18446744073709551616", "3d2:18446744073709551616.0.0.0", "3d2:0x0.0.0.0", "3d2:0.0.0.1_0", "3d2:٠.0.0.0", "3d2:a.0.0.0",
	} {
		if p, ok := impl.ParsePuzzle(s); ok || !isZero(reflect.ValueOf(p)) {
			t.Errorf("%q is %v, %v", s, p, ok)
		}
	}
}

func TestChangedTextsOfPuzzlesAreAsTheModel(t *testing.T) {
	for _, text := range []string{"3d2:", "3d2:0.0.0.0,1.0.1.3", "10d8:5.20.8.10,4.10.0.1,3.0.0.10,1.10.8.9"} {
		for i := range len(text) + 1 {
			for _, c := range "0123456789,.:d- +" {
				checkParsePuzzle(t, text[:i]+string(c)+text[i:])
				if i < len(text) {
					checkParsePuzzle(t, text[:i]+string(c)+text[i+1:])
					checkParsePuzzle(t, text[:i]+text[i+1:])
				}
			}
		}
	}
}

// checkParsePuzzle holds what a text is read as against the model.
func checkParsePuzzle(t *testing.T, s string) {
	t.Helper()
	p, ok := impl.ParsePuzzle(s)
	want, wanted := modelParsePuzzle(s)
	if ok != wanted || !samePuzzle(p, want) {
		t.Errorf("%q is %v, %v, want %v, %v", s, p, ok, want, wanted)
	}
}
