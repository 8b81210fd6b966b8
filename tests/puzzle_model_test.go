package tests

import (
	"math/rand"
	"regexp"
	"slices"
	"strconv"
	"strings"
	"testing"

	"loop.example/g01306/impl"
)

// The model of chapter 9: hidden boards are picked out of boards with any
// jumps, and sorted; each clue is asked of each of them once, and all that is
// asked of a puzzle is counted by the sets of clues that the boards fit.

func modelIn(n int, least int, most int) bool { return least <= n && n <= most }

func modelIsHidden(b impl.Board) bool {
	return modelIsBoard(b) && b.Squares <= 10 && len(b.Jumps) < 2
}

func modelIsClue(squares int, faces int, c impl.Clue) bool {
	if !modelIn(squares, 1, 10) || !modelIn(faces, 1, 8) {
		return false
	}
	switch c.Kind {
	case 0:
		return c.A == 0 && c.B == 0 && modelIn(c.C, 0, 2)
	case 1:
		return modelIn(c.A, 0, squares) && modelIn(c.B, 1, faces) && modelIn(c.C, 0, squares)
	case 2, 3:
		return c.A == 0 && c.B == 0 && modelIn(c.C, 0, 10)
	case 4:
		return modelIn(c.A, 0, squares) && c.B == 0 && modelIn(c.C, 0, 1)
	case 5:
		return modelIn(c.A, 0, 20) && modelIn(c.B, 1, faces) && modelIn(c.C, 0, squares)
	}
	return false
}

func modelIsPuzzle(p impl.Puzzle) bool {
	for _, c := range p.Clues {
		if !modelIsClue(p.Squares, p.Faces, c) {
			return false
		}
	}
	return modelIn(p.Squares, 1, 10) && modelIn(p.Faces, 1, 8) && len(p.Clues) <= 6
}

// modelHidden returns all hidden boards in order.
func modelHidden(squares int, faces int) []impl.Board {
	var boards []impl.Board
	for over := range 3 {
		boards = append(boards, impl.Board{Squares: squares, Faces: faces, Over: over})
		for to := squares; to >= 0; to-- {
			for from := squares; from >= 0; from-- {
				b := impl.Board{Squares: squares, Faces: faces, Over: over, Jumps: []impl.Jump{{From: from, To: to}}}
				if modelIsBoard(b) {
					boards = append(boards, b)
				}
			}
		}
	}
	slices.SortFunc(boards, func(x impl.Board, y impl.Board) int { return slices.Compare(modelPlace(x), modelPlace(y)) })
	return boards
}

// modelPlace returns numbers that order hidden boards of one size.
func modelPlace(b impl.Board) []int {
	place := []int{b.Over}
	for _, j := range b.Jumps {
		place = append(place, j.From, j.To)
	}
	return place
}

// modelHopeless counts the squares that the end is not reached from.
func modelHopeless(b impl.Board) int {
	count := 0
	for square := range b.Squares {
		if modelHolds(b, square) && !slices.Contains(modelReached(b, square), b.Squares) {
			count++
		}
	}
	return count
}

func modelFits(b impl.Board, c impl.Clue) bool {
	switch c.Kind {
	case 0:
		return b.Over == c.C
	case 1:
		return modelHolds(b, c.A) && modelLanding(b, c.A, c.B) == c.C
	case 2:
		return modelFewest(b, 0) == c.C || modelFewest(b, 0) < 0 && c.C == 0
	case 3:
		return modelHopeless(b) == c.C
	case 4:
		return modelBegins(b, c.A) == (c.C == 1)
	}
	square := 0
	for range c.A {
		square = modelLanding(b, square, c.B)
	}
	return square == c.C
}

// modelTold returns the clue like c, but with the C that a board fits. It fails
// if there is none.
func modelTold(b impl.Board, c impl.Clue) (impl.Clue, bool) {
	for c.C = range 11 {
		if modelFits(b, c) {
			return c, true
		}
	}
	return impl.Clue{}, false
}

// modelFit tells a hidden board and the clues that it fits, as bits.
type modelFit struct {
	board impl.Board
	clues int
}

func modelFitsOf(p impl.Puzzle) []modelFit {
	var all []modelFit
	for _, b := range modelHidden(p.Squares, p.Faces) {
		fit := modelFit{board: b}
		for k, c := range p.Clues {
			if modelFits(b, c) {
				fit.clues |= 1 << k
			}
		}
		all = append(all, fit)
	}
	return all
}

// modelCount returns how many boards fit all clues of a set.
func modelCount(all []modelFit, clues int) int {
	count := 0
	for _, fit := range all {
		if fit.clues&clues == clues {
			count++
		}
	}
	return count
}

// modelHarder returns the clues that are left: each one is looked at once.
func modelHarder(p impl.Puzzle) []impl.Clue {
	all := modelFitsOf(p)
	left := 1<<len(p.Clues) - 1
	for k := range p.Clues {
		if modelCount(all, left&^(1<<k)) == 1 {
			left &^= 1 << k
		}
	}
	var clues []impl.Clue
	for k, c := range p.Clues {
		if left&(1<<k) != 0 {
			clues = append(clues, c)
		}
	}
	return clues
}

// modelMake makes all numbers at first, and then a clue from each two of them.
func modelMake(b impl.Board, clues int, seed int) impl.Puzzle {
	numbers := []int{seed}
	for k := range 2 * clues {
		numbers = append(numbers, (numbers[k]*193+2459)%10007)
	}
	p := impl.Puzzle{Squares: b.Squares, Faces: b.Faces}
	for k := range clues {
		kind, y := numbers[2*k+1]%6, numbers[2*k+2]
		c := map[int]impl.Clue{
			1: {A: y % b.Squares, B: 1 + y%b.Faces},
			4: {A: y % b.Squares},
			5: {A: y % 8, B: 1 + y%b.Faces},
		}[kind]
		c.Kind = kind
		told, ok := modelTold(b, c)
		if !ok {
			told = impl.Clue{Kind: 4, A: c.A, C: 1}
		}
		p.Clues = append(p.Clues, told)
	}
	return p
}

// In the pattern of texts of puzzles N stands for a number.
var puzzlePattern = regexp.MustCompile(strings.ReplaceAll(`\ANdN:(?:N\.N\.N\.N(?:,N\.N\.N\.N)*)?\z`, "N", "(?:0|[1-9][0-9]*)"))

var digits = regexp.MustCompile(`[0-9]+`)

// modelParsePuzzle takes all numbers out of a text that has the pattern.
func modelParsePuzzle(s string) (impl.Puzzle, bool) {
	if !puzzlePattern.MatchString(s) {
		return impl.Puzzle{}, false
	}
	var numbers []int
	for _, text := range digits.FindAllString(s, -1) {
		n, err := strconv.Atoi(text)
		if err != nil {
			return impl.Puzzle{}, false
		}
		numbers = append(numbers, n)
	}
	p := impl.Puzzle{Squares: numbers[0], Faces: numbers[1]}
	for four := range slices.Chunk(numbers[2:], 4) {
		p.Clues = append(p.Clues, impl.Clue{Kind: four[0], A: four[1], B: four[2], C: four[3]})
	}
	if !modelIsPuzzle(p) {
		return impl.Puzzle{}, false
	}
	return p, true
}

// allClues returns all clues of boards of so many squares and faces.
func allClues(squares int, faces int) []impl.Clue {
	var clues []impl.Clue
	for kind := range 6 {
		for a := range 21 {
			for b := range faces + 1 {
				for c := range 11 {
					if clue := (impl.Clue{Kind: kind, A: a, B: b, C: c}); modelIsClue(squares, faces, clue) {
						clues = append(clues, clue)
					}
				}
			}
		}
	}
	return clues
}

// seededClue returns a clue of boards like b: one that b fits, or any one.
func seededClue(r *rand.Rand, b impl.Board, fits bool) impl.Clue {
	for {
		c := impl.Clue{Kind: r.Intn(6), A: r.Intn(21), B: r.Intn(9), C: r.Intn(11)}
		// Most numbers would not do where 0 is asked.
		if c.Kind != 1 && c.Kind != 5 {
			c.B = 0
		}
		if c.Kind == 0 || c.Kind == 2 || c.Kind == 3 {
			c.A = 0
		}
		ok := true
		if fits {
			c, ok = modelTold(b, c)
		}
		if ok && modelIsClue(b.Squares, b.Faces, c) {
			return c
		}
	}
}

// seededHidden returns hidden boards, always the same ones.
func seededHidden(count int, seed int64) []impl.Board {
	r := rand.New(rand.NewSource(seed))
	var boards []impl.Board
	for range count {
		all := modelHidden(1+r.Intn(10), 1+r.Intn(8))
		boards = append(boards, all[r.Intn(len(all))])
	}
	return boards
}

// seededPuzzles returns puzzles, always the same ones: most of them are fitted
// by a board at least, some have clues that come twice.
func seededPuzzles(count int, seed int64) []impl.Puzzle {
	r := rand.New(rand.NewSource(seed))
	var puzzles []impl.Puzzle
	for i, b := range seededHidden(count, seed) {
		p := impl.Puzzle{Squares: b.Squares, Faces: b.Faces}
		for range r.Intn(7) {
			c := seededClue(r, b, i%4 != 0)
			if len(p.Clues) > 0 && r.Intn(5) == 0 {
				c = p.Clues[r.Intn(len(p.Clues))]
			}
			p.Clues = append(p.Clues, c)
		}
		puzzles = append(puzzles, p)
	}
	return puzzles
}

// samePuzzle reports whether two puzzles are the same.
func samePuzzle(p impl.Puzzle, q impl.Puzzle) bool {
	return p.Squares == q.Squares && p.Faces == q.Faces && slices.Equal(p.Clues, q.Clues)
}

// sameBoard reports whether two boards are the same.
func sameBoard(b impl.Board, c impl.Board) bool {
	return b.Squares == c.Squares && b.Faces == c.Faces && b.Over == c.Over && slices.Equal(b.Jumps, c.Jumps)
}

// puzzle returns the puzzle with a text that the test relies on.
func puzzle(t *testing.T, s string) impl.Puzzle {
	t.Helper()
	p, ok := impl.ParsePuzzle(s)
	if !ok {
		t.Fatalf("%s is no puzzle", s)
	}
	return p
}
