package impl

import (
	"cmp"
	"slices"
	"strconv"
	"strings"
)

const MaxSquares = 100
const MaxFaces = 8
const MaxJumps = 20
const MaxThrows = 200

// mostLists bounds what CountFewest may return.
const mostLists = 1000000000000000

// What a token does that would come beyond the end.
const (
	overStays = 0
	overEnds  = 1
	overTurns = 2
)

type Jump struct {
	From int
	To   int
}

type Board struct {
	Squares int
	Faces   int
	Over    int
	Jumps   []Jump
}

// perSquare holds a number for each square that a board can have.
type perSquare [MaxSquares + 1]int

// course is a board made ready for many throws: goes tells for each square
// where a token is that comes to it by a throw, so that no throw has to look
// for a jump.
type course struct {
	squares int
	faces   int
	over    int
	goes    perSquare
}

// jumpsByFrom returns where the jump from each square leads.
func jumpsByFrom(jumps []Jump) map[int]int {
	to := make(map[int]int, len(jumps))
	for _, j := range jumps {
		to[j.From] = j.To
	}
	return to
}

// courseOf returns the course of a board. It fails if b is none.
func courseOf(b Board) (course, bool) {
	if !IsBoard(b) {
		return course{}, false
	}
	c := course{squares: b.Squares, faces: b.Faces, over: b.Over}
	jumps := jumpsByFrom(b.Jumps)
	for square := range c.goes {
		c.goes[square] = square
		if to, ok := jumps[square]; ok {
			c.goes[square] = to
		}
	}
	return c, true
}

// courseAt returns the course of a board. It fails if b is none or if no token
// can be on the square.
func courseAt(b Board, square int) (course, bool) {
	c, ok := courseOf(b)
	if !ok || !c.holds(square) {
		return course{}, false
	}
	return c, true
}

// holds reports whether a token can be on a square: whether the board has it
// and no jump begins there.
func (c *course) holds(square int) bool {
	return square >= 0 && square <= c.squares && c.goes[square] == square
}

// hasFace reports whether a face can be thrown.
func (c *course) hasFace(face int) bool {
	return face >= 1 && face <= c.faces
}

// hasThrows reports whether a list is one of throws.
func (c *course) hasThrows(throws []int) bool {
	if len(throws) > MaxThrows {
		return false
	}
	for _, face := range throws {
		if !c.hasFace(face) {
			return false
		}
	}
	return true
}

// lands returns the square that a throw brings a token to, before it goes by
// the jump that may begin there: a token that stays lands where it is.
func (c *course) lands(square int, face int) int {
	to := square + face
	if square == c.squares {
		return square
	}
	if to <= c.squares {
		return to
	}
	switch c.over {
	case overEnds:
		return c.squares
	case overTurns:
		if back := 2*c.squares - to; back >= 0 {
			return back
		}
	}
	return square
}

// behind returns the square behind a throw. A token that stays makes no jump,
// as none begins where a token can be.
func (c *course) behind(square int, face int) int {
	return c.goes[c.lands(square, face)]
}

// facesTo returns how many faces lead from a square to another one, or the
// same.
func (c *course) facesTo(from int, to int) int {
	faces := 0
	for face := 1; face <= c.faces; face++ {
		if c.behind(from, face) == to {
			faces++
		}
	}
	return faces
}

// fewest returns the least number of throws that lead from a square to the
// end. It fails if there are none.
func (c *course) fewest(square int) (int, bool) {
	var met [MaxSquares + 1]bool
	var throws, queue perSquare
	met[square] = true
	queue[0] = square
	queued := 1
search:
	for i := 0; i < queued; i++ {
		from := queue[i]
		for face := 1; face <= c.faces; face++ {
			to := c.behind(from, face)
			if met[to] {
				continue
			}
			met[to] = true
			throws[to] = throws[from] + 1
			if to == c.squares {
				break search
			}
			queue[queued] = to
			queued++
		}
	}
	return throws[c.squares], met[c.squares]
}

// reached tells of each square whether some throws lead to it from a square.
func (c *course) reached(square int) [MaxSquares + 1]bool {
	var met [MaxSquares + 1]bool
	met[square] = true
	todo := []int{square}
	for len(todo) > 0 {
		from := todo[len(todo)-1]
		todo = todo[:len(todo)-1]
		for face := 1; face <= c.faces; face++ {
			if to := c.behind(from, face); !met[to] {
				met[to] = true
				todo = append(todo, to)
			}
		}
	}
	return met
}

// firstFace returns the least face behind which the end is just so many throws
// away. It fails if there is none.
func (c *course) firstFace(square int, left int) (int, bool) {
	for face := 1; face <= c.faces; face++ {
		if n, ok := c.fewest(c.behind(square, face)); ok && n == left {
			return face, true
		}
	}
	return 0, false
}

// onward returns how many lists with one throw more lead to each square. All
// numbers beyond mostLists are told as the same one, so that none of them
// overflows.
func (c *course) onward(lists perSquare) perSquare {
	var next perSquare
	for from := 0; from <= c.squares; from++ {
		if lists[from] == 0 {
			continue
		}
		for face := 1; face <= c.faces; face++ {
			to := c.behind(from, face)
			next[to] = min(next[to]+lists[from], mostLists+1)
		}
	}
	return next
}

// listsToEnd returns how many lists lead to the end with so many throws more.
// It fails if they are more than mostLists.
func (c *course) listsToEnd(lists perSquare, throws int) (int, bool) {
	for range throws {
		lists = c.onward(lists)
	}
	if lists[c.squares] > mostLists {
		return 0, false
	}
	return lists[c.squares], true
}

// withJump returns the course with a jump more.
func (c course) withJump(j Jump) course {
	c.goes[j.From] = j.To
	return c
}

// laddersToAdd returns the ladders that may be put into a board, ordered by
// From, then by To: none if it has no room for a jump.
func laddersToAdd(b Board) []Jump {
	c, ok := courseOf(b)
	if !ok || len(b.Jumps) >= MaxJumps {
		return nil
	}
	var ends [MaxSquares + 1]bool
	for _, j := range b.Jumps {
		ends[j.To] = true
	}
	var ladders []Jump
	for from := 1; from < c.squares; from++ {
		if ends[from] || !c.holds(from) {
			continue
		}
		for to := from + 1; to <= c.squares; to++ {
			if c.holds(to) {
				ladders = append(ladders, Jump{From: from, To: to})
			}
		}
	}
	return ladders
}

// withJumps returns the board with these jumps, in their order, instead of its
// own. It fails if the result is no board. It may reorder jumps.
func withJumps(b Board, jumps []Jump) (Board, bool) {
	slices.SortFunc(jumps, func(x Jump, y Jump) int { return cmp.Compare(x.From, y.From) })
	b.Jumps = jumps
	if !IsBoard(b) {
		return Board{}, false
	}
	return b, true
}

// jumpsThat returns the jumps of a board that are wanted, in their order.
func jumpsThat(b Board, wanted func(j Jump) bool) []Jump {
	var jumps []Jump
	for _, j := range b.Jumps {
		if wanted(j) {
			jumps = append(jumps, j)
		}
	}
	return jumps
}

// numbersAround returns the two numbers that stand around the first mark. It
// also takes numbers with signs or superfluous zeros.
func numbersAround(s string, mark string) (int, int, bool) {
	before, behind, ok := strings.Cut(s, mark)
	if !ok {
		return 0, 0, false
	}
	x, err := strconv.Atoi(before)
	if err != nil {
		return 0, 0, false
	}
	y, err := strconv.Atoi(behind)
	if err != nil {
		return 0, 0, false
	}
	return x, y, true
}

// plainOf returns the board without jumps that a text begins with.
func plainOf(s string) (Board, bool) {
	sizes, over, ok := strings.Cut(s, "/")
	if !ok {
		return Board{}, false
	}
	squares, faces, ok := numbersAround(sizes, "d")
	if !ok {
		return Board{}, false
	}
	n, err := strconv.Atoi(over)
	if err != nil {
		return Board{}, false
	}
	return PlainBoard(squares, faces, n)
}

// IsBoard reports whether b, whose numbers may be any, is a board.
func IsBoard(b Board) bool {
	if b.Squares < 1 || b.Squares > MaxSquares || b.Faces < 1 || b.Faces > MaxFaces {
		return false
	}
	if b.Over < overStays || b.Over > overTurns || len(b.Jumps) > MaxJumps {
		return false
	}
	begins := jumpsByFrom(b.Jumps)
	before := 0
	for _, j := range b.Jumps {
		if j.From <= before || j.From >= b.Squares || j.To < 0 || j.To > b.Squares {
			return false
		}
		if _, ok := begins[j.To]; ok {
			return false
		}
		before = j.From
	}
	return true
}

// PlainBoard returns the board of so many squares and faces, with an Over and without jumps.
func PlainBoard(squares int, faces int, over int) (Board, bool) {
	b := Board{Squares: squares, Faces: faces, Over: over}
	if !IsBoard(b) {
		return Board{}, false
	}
	return b, true
}

// ThrowTo returns the square behind a throw.
func ThrowTo(b Board, square int, face int) (int, bool) {
	c, ok := courseAt(b, square)
	if !ok || !c.hasFace(face) {
		return 0, false
	}
	return c.behind(square, face), true
}

// PlayThrows returns the square behind all throws, one after the other.
func PlayThrows(b Board, square int, throws []int) (int, bool) {
	path, ok := PathOfThrows(b, square, throws)
	if !ok {
		return 0, false
	}
	return path[len(path)-1], true
}

// PathOfThrows returns the square and those behind each throw, in turn.
func PathOfThrows(b Board, square int, throws []int) ([]int, bool) {
	c, ok := courseAt(b, square)
	if !ok || !c.hasThrows(throws) {
		return nil, false
	}
	path := []int{square}
	for _, face := range throws {
		square = c.behind(square, face)
		path = append(path, square)
	}
	return path, true
}

// FewestThrows returns the least number of throws that lead from a square to the end. It fails if there are none.
func FewestThrows(b Board, square int) (int, bool) {
	c, ok := courseAt(b, square)
	if !ok {
		return 0, false
	}
	return c.fewest(square)
}

// FirstThrows returns the lexicographically first list of so few throws. It fails if there are none.
func FirstThrows(b Board, square int) ([]int, bool) {
	c, ok := courseAt(b, square)
	if !ok {
		return nil, false
	}
	left, ok := c.fewest(square)
	if !ok {
		return nil, false
	}
	var throws []int
	for left > 0 {
		left--
		face, ok := c.firstFace(square, left)
		if !ok {
			return nil, false
		}
		throws = append(throws, face)
		square = c.behind(square, face)
	}
	return throws, true
}

// CountFewest returns how many such lists there are: 0 if there are none. It fails if they are more than 1000000000000000.
func CountFewest(b Board, square int) (int, bool) {
	c, ok := courseAt(b, square)
	if !ok {
		return 0, false
	}
	throws, ok := c.fewest(square)
	if !ok {
		return 0, true
	}
	var lists perSquare
	lists[square] = 1
	return c.listsToEnd(lists, throws)
}

// ReachedFrom returns all squares that some throws, perhaps none, lead to from a square, increasing.
func ReachedFrom(b Board, square int) ([]int, bool) {
	c, ok := courseAt(b, square)
	if !ok {
		return nil, false
	}
	var squares []int
	for to, met := range c.reached(square) {
		if met {
			squares = append(squares, to)
		}
	}
	return squares, true
}

// HopelessSquares returns all squares, at which no jump begins, from which no throws lead to the end, increasing.
func HopelessSquares(b Board) ([]int, bool) {
	c, ok := courseOf(b)
	if !ok {
		return nil, false
	}
	var squares []int
	for square := 0; square <= c.squares; square++ {
		if !c.holds(square) {
			continue
		}
		if _, ok := c.fewest(square); !ok {
			squares = append(squares, square)
		}
	}
	return squares, true
}

// LandingsOf returns the square behind each face, in turn.
func LandingsOf(b Board, square int) ([]int, bool) {
	c, ok := courseAt(b, square)
	if !ok {
		return nil, false
	}
	landings := make([]int, 0, c.faces)
	for face := 1; face <= c.faces; face++ {
		landings = append(landings, c.behind(square, face))
	}
	return landings, true
}

// FacesTo returns how many faces lead from a square to another one, or the same.
func FacesTo(b Board, from int, to int) (int, bool) {
	c, ok := courseAt(b, from)
	if !ok || !c.holds(to) {
		return 0, false
	}
	return c.facesTo(from, to), true
}

// SnakesOf returns all snakes, in their order.
func SnakesOf(b Board) ([]Jump, bool) {
	if !IsBoard(b) {
		return nil, false
	}
	return jumpsThat(b, func(j Jump) bool { return j.To < j.From }), true
}

// LaddersOf returns all ladders, in their order.
func LaddersOf(b Board) ([]Jump, bool) {
	if !IsBoard(b) {
		return nil, false
	}
	return jumpsThat(b, func(j Jump) bool { return j.To > j.From }), true
}

// AddJump returns the board with a jump more. It fails if the result is no board.
func AddJump(b Board, j Jump) (Board, bool) {
	if !IsBoard(b) {
		return Board{}, false
	}
	all := jumpsThat(b, func(Jump) bool { return true })
	return withJumps(b, append(all, j))
}

// DropJump returns the board without the jump that begins at a square. It fails if none does.
func DropJump(b Board, from int) (Board, bool) {
	if !IsBoard(b) {
		return Board{}, false
	}
	rest := jumpsThat(b, func(j Jump) bool { return j.From != from })
	if len(rest) == len(b.Jumps) {
		return Board{}, false
	}
	return withJumps(b, rest)
}

// TurnJumps returns the board with each jump from To to From. It fails if the result is no board.
func TurnJumps(b Board) (Board, bool) {
	if !IsBoard(b) {
		return Board{}, false
	}
	var turned []Jump
	for _, j := range b.Jumps {
		turned = append(turned, Jump{From: j.To, To: j.From})
	}
	return withJumps(b, turned)
}

// BestLadder returns the ladder from a square at which no jump begins or ends to a greater one at which none begins that, put in, makes FewestThrows from the start least, the first one by From, then by To, of several, and this number. It fails if there is no such ladder, if the end is not reached with any, or if there are MaxJumps.
func BestLadder(b Board) (Jump, int, bool) {
	c, ok := courseOf(b)
	if !ok {
		return Jump{}, 0, false
	}
	best, least, found := Jump{}, 0, false
	for _, j := range laddersToAdd(b) {
		with := c.withJump(j)
		throws, ok := with.fewest(0)
		if ok && (!found || throws < least) {
			best, least, found = j, throws, true
		}
	}
	return best, least, found
}

// BoardText returns Squares, d, Faces, / and Over, and for each jump ;, From, > and To.
func BoardText(b Board) (string, bool) {
	if !IsBoard(b) {
		return "", false
	}
	text := strconv.Itoa(b.Squares) + "d" + strconv.Itoa(b.Faces) + "/" + strconv.Itoa(b.Over)
	for _, j := range b.Jumps {
		text += ";" + strconv.Itoa(j.From) + ">" + strconv.Itoa(j.To)
	}
	return text, true
}

// ParseBoard returns the board with a BoardText. It fails if there is none.
func ParseBoard(s string) (Board, bool) {
	plain, jumps, more := strings.Cut(s, ";")
	b, ok := plainOf(plain)
	if !ok {
		return Board{}, false
	}
	for more && len(b.Jumps) < MaxJumps {
		var jump string
		jump, jumps, more = strings.Cut(jumps, ";")
		from, to, ok := numbersAround(jump, ">")
		if !ok {
			return Board{}, false
		}
		b.Jumps = append(b.Jumps, Jump{From: from, To: to})
	}
	// Written again, it is the same text only if s has no sign, no
	// superfluous zero and nothing behind the last jump.
	text, ok := BoardText(b)
	if !ok || text != s {
		return Board{}, false
	}
	return b, true
}
