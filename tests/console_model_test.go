package tests

import (
	"math/rand"
	"regexp"
	"slices"
	"strconv"
	"strings"
	"testing"

	"loop.example/g01306/impl"
)

// The model of chapter 10: a line is taken apart by one pattern for each line
// of the table, and does what the calls do that are named there; what boards and
// desks become is told here without them.

// modelAnswer is what a line that fits a pattern does with a desk: with ok false
// it fails.
type modelAnswer func(d impl.Desk, words []string) (after impl.Desk, reply string, ok bool)

// modelRow is a line of the table.
type modelRow struct {
	pattern *regexp.Regexp
	answer  modelAnswer
}

// modelPattern returns the pattern of a line in which N is for a number, L for
// a list and B for a word.
func modelPattern(line string) *regexp.Regexp {
	number := `(?:0|[1-9][0-9]{0,5})`
	line = strings.ReplaceAll(line, "L", "("+number+"(?:,"+number+")*)")
	line = strings.ReplaceAll(line, "N", "("+number+")")
	line = strings.ReplaceAll(line, "B", "([^ ]*)")
	return regexp.MustCompile(`\A` + line + `\z`)
}

func modelIsDesk(d impl.Desk) bool {
	return modelIsBoard(d.Board) && modelHolds(d.Board, d.Square)
}

// modelNumber returns the number of a word that fits a pattern.
func modelNumber(word string) int {
	n, err := strconv.Atoi(word)
	if err != nil {
		return -1
	}
	return n
}

// modelNumbers returns the numbers of a list that fits a pattern.
func modelNumbers(word string) []int {
	var numbers []int
	for _, n := range strings.Split(word, ",") {
		numbers = append(numbers, modelNumber(n))
	}
	return numbers
}

// modelBoardText returns the BoardText of a board.
func modelBoardText(b impl.Board) string {
	text := strconv.Itoa(b.Squares) + "d" + strconv.Itoa(b.Faces) + "/" + strconv.Itoa(b.Over)
	for _, j := range b.Jumps {
		text += ";" + strconv.Itoa(j.From) + ">" + strconv.Itoa(j.To)
	}
	return text
}

// modelList returns the reply that is a list.
func modelList(list []int) string {
	if len(list) == 0 {
		return "-"
	}
	text := ""
	for _, n := range list {
		text += "," + strconv.Itoa(n)
	}
	return text[1:]
}

// modelLaid returns the desk with another board, and its text as the reply. It
// fails if it is no desk.
func modelLaid(b impl.Board, square int) (impl.Desk, string, bool) {
	d := impl.Desk{Board: b, Square: square}
	if !modelIsDesk(d) {
		return impl.Desk{}, "", false
	}
	return d, modelBoardText(b), true
}

// modelPut returns the desk with another Square, and this as the reply. It fails
// if it is no desk.
func modelPut(b impl.Board, square int) (impl.Desk, string, bool) {
	d, _, ok := modelLaid(b, square)
	return d, strconv.Itoa(square), ok
}

// modelWithJump returns the jumps with one more.
func modelWithJump(jumps []impl.Jump, more impl.Jump) []impl.Jump {
	with := append(slices.Clone(jumps), more)
	slices.SortFunc(with, func(j impl.Jump, k impl.Jump) int { return j.From - k.From })
	return with
}

// modelOfNumber makes an answer of a call that returns a number.
func modelOfNumber(call func(d impl.Desk, n []int) (int, bool)) modelAnswer {
	return func(d impl.Desk, words []string) (impl.Desk, string, bool) {
		n, ok := call(d, modelNumbersOf(words))
		return d, strconv.Itoa(n), ok
	}
}

// modelOfList makes an answer of a call that returns a list.
func modelOfList(call func(d impl.Desk, n []int) ([]int, bool)) modelAnswer {
	return func(d impl.Desk, words []string) (impl.Desk, string, bool) {
		list, ok := call(d, modelNumbersOf(words))
		return d, modelList(list), ok
	}
}

// modelOfFraction makes an answer of a call that returns a fraction.
func modelOfFraction(call func(d impl.Desk, n []int) (int, int, bool)) modelAnswer {
	return func(d impl.Desk, words []string) (impl.Desk, string, bool) {
		x, y, ok := call(d, modelNumbersOf(words))
		return d, strconv.Itoa(x) + "/" + strconv.Itoa(y), ok
	}
}

// modelNumbersOf returns the numbers of some words, those of lists among them.
func modelNumbersOf(words []string) []int {
	var numbers []int
	for _, word := range words {
		numbers = append(numbers, modelNumbers(word)...)
	}
	return numbers
}

// modelChanges returns the answers of lines that change a desk.
func modelChanges() map[string]modelAnswer {
	return map[string]modelAnswer{
		"board B": func(d impl.Desk, words []string) (impl.Desk, string, bool) {
			b, ok := modelParse(words[0])
			if !ok {
				return d, "what", true
			}
			return modelLaid(b, 0)
		},
		"jump N N": func(d impl.Desk, words []string) (impl.Desk, string, bool) {
			d.Board.Jumps = modelWithJump(d.Board.Jumps, impl.Jump{From: modelNumber(words[0]), To: modelNumber(words[1])})
			return modelLaid(d.Board, 0)
		},
		"drop N": func(d impl.Desk, words []string) (impl.Desk, string, bool) {
			from := modelNumber(words[0])
			there := modelBegins(d.Board, from)
			d.Board.Jumps = slices.DeleteFunc(slices.Clone(d.Board.Jumps), func(j impl.Jump) bool { return j.From == from })
			after, reply, ok := modelLaid(d.Board, 0)
			return after, reply, ok && there
		},
		"over N": func(d impl.Desk, words []string) (impl.Desk, string, bool) {
			d.Board.Over = modelNumber(words[0])
			return modelLaid(d.Board, d.Square)
		},
		"go L": func(d impl.Desk, words []string) (impl.Desk, string, bool) {
			throws := modelNumbers(words[0])
			square := d.Square
			for _, face := range throws {
				if face < 1 || face > d.Board.Faces || len(throws) > 200 {
					return d, "", false
				}
				square = modelLanding(d.Board, square, face)
			}
			return modelPut(d.Board, square)
		},
		"at N": func(d impl.Desk, words []string) (impl.Desk, string, bool) {
			return modelPut(d.Board, modelNumber(words[0]))
		},
	}
}

// modelTells returns the answers of lines that change nothing.
func modelTells() map[string]modelAnswer {
	return map[string]modelAnswer{
		"show": func(d impl.Desk, words []string) (impl.Desk, string, bool) {
			return d, modelBoardText(d.Board), true
		},
		"where":  modelOfNumber(func(d impl.Desk, n []int) (int, bool) { return d.Square, true }),
		"path L": modelOfList(func(d impl.Desk, n []int) ([]int, bool) { return impl.PathOfThrows(d.Board, d.Square, n) }),
		"few":    modelOfNumber(func(d impl.Desk, n []int) (int, bool) { return impl.FewestThrows(d.Board, d.Square) }),
		"first":  modelOfList(func(d impl.Desk, n []int) ([]int, bool) { return impl.FirstThrows(d.Board, d.Square) }),
		"land":   modelOfList(func(d impl.Desk, n []int) ([]int, bool) { return impl.LandingsOf(d.Board, d.Square) }),
		"done N": modelOfFraction(func(d impl.Desk, n []int) (int, int, bool) { return impl.PartDone(d.Board, d.Square, n[0]) }),
		"half":   modelOfNumber(func(d impl.Desk, n []int) (int, bool) { return impl.HalfDone(d.Board, d.Square) }),
		"mid N": modelOfFraction(func(d impl.Desk, n []int) (int, int, bool) {
			return impl.AverageAfter(d.Board, d.Square, n[0])
		}),
		"games N":  modelOfList(func(d impl.Desk, n []int) ([]int, bool) { return impl.GameTable(d.Board, n[0]) }),
		"game N N": modelOfList(func(d impl.Desk, n []int) ([]int, bool) { return impl.GameOfRank(d.Board, n[0], n[1]) }),
		"race N": modelOfList(func(d impl.Desk, n []int) ([]int, bool) {
			return impl.WinsAfter(impl.Race{Board: d.Board, Meet: 1, First: d.Square, Other: d.Square}, n[0])
		}),
		"sum N N N": modelOfNumber(func(d impl.Desk, n []int) (int, bool) { return impl.WaysOfSum(n[0], n[1], n[2]) }),
	}
}

// modelTable returns all lines of the table.
func modelTable() []modelRow {
	var rows []modelRow
	for _, answers := range []map[string]modelAnswer{modelChanges(), modelTells()} {
		for line, answer := range answers {
			rows = append(rows, modelRow{modelPattern(line), answer})
		}
	}
	return rows
}

// modelLine returns the desk behind a line, and its reply.
func modelLine(rows []modelRow, d impl.Desk, line string) (impl.Desk, string) {
	for _, row := range rows {
		words := row.pattern.FindStringSubmatch(line)
		if words == nil {
			continue
		}
		after, reply, ok := row.answer(d, words[1:])
		if !ok {
			return d, "no"
		}
		return after, reply
	}
	return d, "what"
}

// modelRun is what a script does: all replies, the desk behind each line, and
// the numbers of the lines that fail.
type modelRun struct {
	replies []string
	desks   []impl.Desk
	failed  []int
}

// modelRunOf executes the lines of a script on the first desk.
func modelRunOf(lines []string) modelRun {
	var run modelRun
	rows := modelTable()
	b, _ := modelParse(example)
	d := impl.Desk{Board: b}
	for i, line := range lines {
		var reply string
		d, reply = modelLine(rows, d, line)
		run.replies = append(run.replies, reply)
		run.desks = append(run.desks, d)
		if reply == "no" || reply == "what" {
			run.failed = append(run.failed, i+1)
		}
	}
	return run
}

// modelScriptLines returns the lines of a script, and whether it is one.
func modelScriptLines(s string) ([]string, bool) {
	var lines []string
	line := ""
	for i := range len(s) {
		if s[i] != 10 {
			line += s[i : i+1]
			continue
		}
		lines = append(lines, line)
		line = ""
	}
	return lines, line == "" && len(lines) <= 50 && len(s) <= 3000
}

// sameDesk reports whether two desks are the same, whether their jumps are nil
// or empty.
func sameDesk(d impl.Desk, e impl.Desk) bool {
	return sameBoard(d.Board, e.Board) && d.Square == e.Square
}

// consoleWords are the first words of all lines of the table.
var consoleWords = []string{
	"board", "jump", "drop", "over", "go", "at", "show", "where", "path", "few", "first", "land", "done", "half", "mid", "games", "game", "race", "sum",
}

// seededList returns a list of some throws, seldom with one that is none.
func seededList(r *rand.Rand, b impl.Board) string {
	var throws []int
	for range 1 + r.Intn(4) {
		throws = append(throws, 1+r.Intn(b.Faces))
	}
	if r.Intn(8) == 0 {
		throws[0] = (b.Faces + 1) * r.Intn(2)
	}
	return modelList(throws)
}

// seededFrom returns a square, mostly one at which a jump of the board begins.
func seededFrom(r *rand.Rand, b impl.Board) int {
	if len(b.Jumps) > 0 && r.Intn(4) > 0 {
		return b.Jumps[r.Intn(len(b.Jumps))].From
	}
	return r.Intn(b.Squares + 2)
}

// seededWords returns the words behind the first one of a line.
func seededWords(r *rand.Rand, d impl.Desk, first string) string {
	upTo := func(most int) string { return " " + strconv.Itoa(r.Intn(most+1)) }
	switch first {
	case "board":
		b := impl.Board{Squares: 1 + r.Intn(12)*(1+r.Intn(4)), Faces: 1 + r.Intn(8), Over: r.Intn(3)}
		return " " + modelBoardText(jumpsPutIn(r, b, r.Intn(12)))
	case "jump":
		return upTo(d.Board.Squares) + upTo(d.Board.Squares+1)
	case "drop":
		return " " + strconv.Itoa(seededFrom(r, d.Board))
	case "at":
		return upTo(d.Board.Squares + 1)
	case "over":
		return upTo(3)
	case "go", "path":
		return " " + seededList(r, d.Board)
	case "done":
		return upTo(21)
	case "mid", "games":
		return upTo(17)
	case "game":
		return upTo(8) + upTo(r.Intn(20))
	case "race":
		return upTo(15)
	case "sum":
		return upTo(9) + upTo(13) + upTo(40)
	}
	return ""
}

// seededLine returns a line for a desk, seldom one with a mistake.
func seededLine(r *rand.Rand, d impl.Desk) string {
	first := consoleWords[r.Intn(len(consoleWords))]
	line := first + seededWords(r, d, first)
	if r.Intn(12) > 0 {
		return line
	}
	i := r.Intn(len(line) + 1)
	bytes := " 0123456789,;>-+dagorw"
	b := r.Intn(len(bytes))
	return line[:i] + bytes[b:b+1] + line[min(i+r.Intn(2), len(line)):]
}

// seededLines returns the lines of a script, always the same ones, made for the
// desks that those before them leave.
func seededLines(seed int64) []string {
	r := rand.New(rand.NewSource(seed))
	rows := modelTable()
	b, _ := modelParse(example)
	d := impl.Desk{Board: b}
	var lines []string
	size := 0
	for range 1 + r.Intn(50) {
		line := seededLine(r, d)
		if size += len(line) + 1; size > 3000 {
			break
		}
		lines = append(lines, line)
		d, _ = modelLine(rows, d, line)
	}
	return lines
}

// seededDesks returns desks, always the same ones.
func seededDesks(count int, seed int64) []impl.Desk {
	r := rand.New(rand.NewSource(seed))
	var desks []impl.Desk
	for _, b := range largeBoards(count, seed) {
		square := r.Intn(b.Squares + 1)
		for !modelHolds(b, square) {
			square = r.Intn(b.Squares + 1)
		}
		desks = append(desks, impl.Desk{Board: b, Square: square})
	}
	return desks
}

// deskText returns the text of a desk that tests write: a BoardText, @ and the
// Square.
func deskText(d impl.Desk) string {
	return modelBoardText(d.Board) + "@" + strconv.Itoa(d.Square)
}

// desk returns the desk with a text that the test relies on.
func desk(t *testing.T, s string) impl.Desk {
	t.Helper()
	text, square, _ := strings.Cut(s, "@")
	d := impl.Desk{Board: board(t, text), Square: modelNumber(square)}
	if !impl.IsDesk(d) {
		t.Fatalf("%s is no desk", s)
	}
	return d
}
