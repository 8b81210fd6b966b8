package tests

import (
	"math/big"
	"math/rand"
	"regexp"
	"slices"
	"strconv"
	"strings"
	"testing"

	"loop.example/g01306/impl"
)

// The model: chapter 1 told again as slowly and directly as it can be, so that
// a mistake of the program is not likely to be made here too.

func modelIsBoard(b impl.Board) bool {
	if b.Squares < 1 || b.Squares > 100 || b.Faces < 1 || b.Faces > 8 || b.Over < 0 || b.Over > 2 || len(b.Jumps) > 20 {
		return false
	}
	for i, j := range b.Jumps {
		if j.From < 1 || j.From > b.Squares-1 || j.To < 0 || j.To > b.Squares {
			return false
		}
		for k, other := range b.Jumps {
			if j.To == other.From || i < k && j.From >= other.From {
				return false
			}
		}
	}
	return true
}

func modelBegins(b impl.Board, square int) bool {
	return slices.ContainsFunc(b.Jumps, func(j impl.Jump) bool { return j.From == square })
}

func modelEnds(b impl.Board, square int) bool {
	return slices.ContainsFunc(b.Jumps, func(j impl.Jump) bool { return j.To == square })
}

func modelHolds(b impl.Board, square int) bool {
	return square >= 0 && square <= b.Squares && !modelBegins(b, square)
}

// modelLanding walks the face square by square.
func modelLanding(b impl.Board, square int, face int) int {
	if square == b.Squares {
		return square
	}
	at, step := square, 1
	for range face {
		if at == b.Squares && b.Over == 0 || at == 0 && step == -1 {
			return square
		}
		if at == b.Squares && b.Over == 1 {
			return at
		}
		if at == b.Squares {
			step = -1
		}
		at += step
	}
	for _, j := range b.Jumps {
		if j.From == at {
			return j.To
		}
	}
	return at
}

// modelFewest makes the set of squares behind 0, 1, .. throws until the end is
// in it: -1 if it never is.
func modelFewest(b impl.Board, square int) int {
	at := map[int]bool{square: true}
	for n := 0; n <= b.Squares; n++ {
		if at[b.Squares] {
			return n
		}
		next := map[int]bool{}
		for from := range at {
			for face := 1; face <= b.Faces; face++ {
				next[modelLanding(b, from, face)] = true
			}
		}
		at = next
	}
	return -1
}

// modelReached adds landings until none is new.
func modelReached(b impl.Board, square int) []int {
	reached := []int{square}
	for i := 0; i < len(reached); i++ {
		for face := 1; face <= b.Faces; face++ {
			if to := modelLanding(b, reached[i], face); !slices.Contains(reached, to) {
				reached = append(reached, to)
			}
		}
	}
	slices.Sort(reached)
	return reached
}

// modelListsToEnd tries all lists of so many throws in lexicographic order: the
// first one that leads to the end, and how many do.
func modelListsToEnd(b impl.Board, square int, n int) ([]int, int) {
	if n == 0 {
		if square == b.Squares {
			return nil, 1
		}
		return nil, 0
	}
	var first []int
	count := 0
	for face := 1; face <= b.Faces; face++ {
		rest, more := modelListsToEnd(b, modelLanding(b, square, face), n-1)
		if more > 0 && count == 0 {
			first = append([]int{face}, rest...)
		}
		count += more
	}
	return first, count
}

// modelWays returns for each square by how many lists of n throws the end is
// come to, without any bound.
func modelWays(b impl.Board, n int) []*big.Int {
	ways := make([]*big.Int, b.Squares+1)
	for square := range ways {
		ways[square] = new(big.Int)
		if n == 0 && square == b.Squares {
			ways[square].SetInt64(1)
		}
	}
	if n == 0 {
		return ways
	}
	before := modelWays(b, n-1)
	for square := range ways {
		for face := 1; face <= b.Faces; face++ {
			ways[square].Add(ways[square], before[modelLanding(b, square, face)])
		}
	}
	return ways
}

// modelBestLadder puts each ladder in, one after the other.
func modelBestLadder(b impl.Board) (impl.Jump, int, bool) {
	best, least := impl.Jump{}, -1
	if len(b.Jumps) == impl.MaxJumps {
		return best, 0, false
	}
	for from := 1; from < b.Squares; from++ {
		for to := from + 1; to <= b.Squares; to++ {
			if modelBegins(b, from) || modelEnds(b, from) || modelBegins(b, to) {
				continue
			}
			with := b
			with.Jumps = append(slices.Clone(b.Jumps), impl.Jump{From: from, To: to})
			if n := modelFewest(with, 0); n >= 0 && (least < 0 || n < least) {
				best, least = impl.Jump{From: from, To: to}, n
			}
		}
	}
	return best, max(least, 0), least >= 0
}

var boardPattern = regexp.MustCompile(`\A(0|[1-9][0-9]*)d(0|[1-9][0-9]*)/(0|[1-9][0-9]*)((?:;(?:0|[1-9][0-9]*)>(?:0|[1-9][0-9]*))*)\z`)

// modelParse takes a text apart by a pattern.
func modelParse(s string) (impl.Board, bool) {
	m := boardPattern.FindStringSubmatch(s)
	if m == nil {
		return impl.Board{}, false
	}
	number := func(s string) int {
		n, err := strconv.Atoi(s)
		if err != nil {
			return -1
		}
		return n
	}
	b := impl.Board{Squares: number(m[1]), Faces: number(m[2]), Over: number(m[3])}
	for _, jump := range strings.Split(m[4], ";")[1:] {
		from, to, _ := strings.Cut(jump, ">")
		b.Jumps = append(b.Jumps, impl.Jump{From: number(from), To: number(to)})
	}
	if !modelIsBoard(b) {
		return impl.Board{}, false
	}
	return b, true
}

// jumpLists returns all lists of at most two jumps with numbers in 0..most,
// those that no board has among them.
func jumpLists(most int) [][]impl.Jump {
	var jumps []impl.Jump
	for from := 0; from <= most; from++ {
		for to := 0; to <= most; to++ {
			jumps = append(jumps, impl.Jump{From: from, To: to})
		}
	}
	lists := [][]impl.Jump{nil}
	for _, j := range jumps {
		lists = append(lists, []impl.Jump{j})
		for _, k := range jumps {
			lists = append(lists, []impl.Jump{j, k})
		}
	}
	return lists
}

// smallBoards returns all boards of at most 5 squares, 3 faces and 2 jumps.
func smallBoards() []impl.Board {
	var boards []impl.Board
	for squares := 1; squares <= 5; squares++ {
		for _, jumps := range jumpLists(squares) {
			for kind := range 9 {
				b := impl.Board{Squares: squares, Faces: kind/3 + 1, Over: kind % 3, Jumps: jumps}
				if modelIsBoard(b) {
					boards = append(boards, b)
				}
			}
		}
	}
	return boards
}

// largeBoards returns boards of up to 100 squares with up to 20 jumps, always
// the same ones.
func largeBoards(count int, seed int64) []impl.Board {
	r := rand.New(rand.NewSource(seed))
	boards := make([]impl.Board, 0, count)
	for range count {
		b := impl.Board{Squares: 1 + r.Intn(100), Faces: 1 + r.Intn(8), Over: r.Intn(3)}
		boards = append(boards, jumpsPutIn(r, b, r.Intn(60)))
	}
	return boards
}

// jumpsPutIn returns the board with those of so many jumps that it can have.
func jumpsPutIn(r *rand.Rand, b impl.Board, tries int) impl.Board {
	for ; tries > 0 && b.Squares > 1; tries-- {
		with := b
		with.Jumps = append(slices.Clone(b.Jumps), impl.Jump{From: 1 + r.Intn(b.Squares-1), To: r.Intn(b.Squares + 1)})
		slices.SortFunc(with.Jumps, func(j impl.Jump, k impl.Jump) int { return j.From - k.From })
		if modelIsBoard(with) {
			b = with
		}
	}
	return b
}

// board returns the board with a text that the test relies on.
func board(t *testing.T, s string) impl.Board {
	t.Helper()
	b, ok := impl.ParseBoard(s)
	if !ok {
		t.Fatalf("%s is no board", s)
	}
	return b
}
