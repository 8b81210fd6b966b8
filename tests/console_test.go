package tests

import (
	"slices"
	"strconv"
	"strings"
	"testing"

	"loop.example/g01306/impl"
)

// Promise 10: scripts do what the calls do that they name.

// checkLine wants the reply to a line on a desk with a text, and the text of
// the desk behind it.
func checkLine(t *testing.T, before string, line string, reply string, after string) {
	t.Helper()
	got, said, ok := impl.DeskLine(desk(t, before), line)
	if !ok || said != reply || !sameDesk(got, desk(t, after)) {
		t.Errorf("%s, %q: got %s, %q, %v, want %s, %q", before, line, deskText(got), said, ok, after, reply)
	}
}

// checkTold wants the reply to a line that changes nothing.
func checkTold(t *testing.T, before string, line string, reply string) {
	t.Helper()
	checkLine(t, before, line, reply, before)
}

// checkRefused wants that each of some lines has a reply and changes nothing.
func checkRefused(t *testing.T, before string, reply string, lines ...string) {
	t.Helper()
	for _, line := range lines {
		checkLine(t, before, line, reply, before)
	}
}

// script returns the script with some lines.
func script(lines []string) string {
	s := ""
	for _, line := range lines {
		s += line + "\n"
	}
	return s
}

// checkScript wants the replies to some lines, one after the other on the first
// desk, and as one script, and the text of the desk behind them.
func checkScript(t *testing.T, lines []string, replies []string, after string) {
	t.Helper()
	d := impl.FirstDesk()
	var failed []int
	for i, line := range lines {
		next, reply, ok := impl.DeskLine(d, line)
		if !ok || reply != replies[i] {
			t.Errorf("%s, %q: got %q, %v, want %q", deskText(d), line, reply, ok, replies[i])
		}
		if reply == "no" || reply == "what" {
			failed = append(failed, i+1)
		}
		d = next
	}
	got, ok := impl.RunScript(script(lines))
	checkList(t, "RunScript", got, ok, replies...)
	checkDeskIs(t, "DeskLine", after)(d, true)
	checkDeskIs(t, "DeskAfter", after)(impl.DeskAfter(script(lines)))
	checkListOf(t, "FailedLines", failed...)(impl.FailedLines(script(lines)))
}

// checkDeskIs wants the desk with a text.
func checkDeskIs(t *testing.T, what string, want string) func(d impl.Desk, ok bool) {
	return func(d impl.Desk, ok bool) {
		t.Helper()
		if !ok || !sameDesk(d, desk(t, want)) {
			t.Errorf("%s: got %s, %v, want %s", what, deskText(d), ok, want)
		}
	}
}

// The desk on which the lines of the example begin.
const firstDesk = example + "@0"

func TestExampleOfConsole(t *testing.T) {
	lines := []string{
		"few", "first", "done 2", "mid 1", "games 3", "game 3 1", "path 3,1", "go 3", "land", "at 9", "over 1", "land", "half", "drop 9", "where", "sum 2 6 7",
		"board 4d2/1", "race 3", "go 3", "fly",
	}
	replies := []string{
		"2", "3,2", "1/9", "11/3", "0,0,1,3", "2,1,2", "0,8,2", "8", "2,10,8", "no", "10d3/1;3>8;9>2", "2,10,10", "1", "10d3/1;3>8", "0", "6",
		"4d2/1", "7,1,0", "no", "what",
	}
	checkScript(t, lines, replies, "4d2/1@0")
	checkListOf(t, "FailedLines", 10, 19, 20)(impl.FailedLines(script(lines)))
	after := []string{
		8: example + "@8", 10: example + "@8", 11: "10d3/1;3>8;9>2@8", 13: "10d3/1;3>8;9>2@8", 14: "10d3/1;3>8@0", 16: "10d3/1;3>8@0", 17: "4d2/1@0",
	}
	for n, want := range after {
		if want != "" {
			checkDeskIs(t, "DeskAfter", want)(impl.DeskAfter(script(lines[:n])))
		}
	}
}

func TestFirstDesk(t *testing.T) {
	d := impl.FirstDesk()
	want := impl.Board{Squares: 10, Faces: 3, Jumps: []impl.Jump{{From: 3, To: 8}, {From: 9, To: 2}}}
	if !sameBoard(d.Board, want) || d.Square != 0 || !impl.IsDesk(d) {
		t.Error("FirstDesk", d)
	}
}

func TestDesks(t *testing.T) {
	for _, b := range smallBoards() {
		for square := -2; square <= b.Squares+2; square++ {
			d := impl.Desk{Board: b, Square: square}
			if impl.IsDesk(d) != modelIsDesk(d) {
				t.Error("IsDesk", d, impl.IsDesk(d))
			}
		}
	}
	for _, d := range seededDesks(200, 41) {
		for square := -1; square <= d.Board.Squares+1; square++ {
			d.Square = square
			if impl.IsDesk(d) != modelIsDesk(d) {
				t.Error("IsDesk", d, impl.IsDesk(d))
			}
		}
	}
	for _, square := range append(around(0, 10), 3, 9) {
		if d := (impl.Desk{Board: board(t, example), Square: square}); impl.IsDesk(d) {
			t.Error("a desk:", d)
		}
	}
	for why, b := range noBoards() {
		for square := -1; square <= 11; square++ {
			if impl.IsDesk(impl.Desk{Board: b, Square: square}) {
				t.Error(why, "on a desk", square)
			}
		}
	}
}

func TestLineOfBoard(t *testing.T) {
	for _, text := range []string{"1d1/0", "4d2/1", "100d8/2", "10d3/0;3>8", "10d3/0;3>8;9>2", "5d1/2;1>0;4>5", "50d6/1;10>20;11>20;49>0"} {
		checkLine(t, example+"@8", "board "+text, text, text+"@0")
		checkLine(t, "1d1/2@1", "board "+text, text, text+"@0")
	}
	most := "100d6/1;1>0;2>0;3>0;4>0;5>0;6>0;7>0;8>0;9>0;10>0;11>0;12>0;13>0;14>0;15>0;16>0;17>0;18>0;19>0;20>0"
	checkLine(t, firstDesk, "board "+most, most, most+"@0")
	checkRefused(t, example+"@8", "what",
		"board "+most+";21>0", "board ", "board -", "board 10", "board 10d3", "board 10d3/", "board 10d3/3", "board 10d3/-1", "board 0d3/0", "board 101d3/0", "board 10d0/0",
		"board 10d9/0", "board 10D3/0", "board 10x3/0", "board 10d3/0;", "board 10d3/0;3", "board 10d3/0;3>", "board 10d3/0;3>3", "board 10d3/0;0>3", "board 10d3/0;10>3",
		"board 10d3/0;3>11", "board 10d3/0;9>2;3>8", "board 10d3/0;3>8;3>7", "board 10d3/0;3>9;9>2", "board 10d3/0;3>8,9>2", "board 010d3/0", "board 10d03/0",
		"board 10d3/00", "board +10d3/0", "board 10d3/+0", "board 10d3/-0", "board 10d3/0;03>8", "board 10d3/0;3>08", "board 10d3/0;;3>8", "board 10d3/0@0", "board 10d3/0\t",
		"board 10d3/0\r", "board 4d2/1@0:0:0", "board 3d2:")
}

func TestLinesOfJumps(t *testing.T) {
	checkLine(t, example+"@5", "jump 6 1", "10d3/0;3>8;6>1;9>2", "10d3/0;3>8;6>1;9>2@0")
	checkLine(t, example+"@5", "jump 1 10", "10d3/0;1>10;3>8;9>2", "10d3/0;1>10;3>8;9>2@0")
	checkLine(t, example+"@10", "jump 7 0", "10d3/0;3>8;7>0;9>2", "10d3/0;3>8;7>0;9>2@0")
	// The token is taken from the square at which the jump begins now.
	checkLine(t, example+"@5", "jump 5 6", "10d3/0;3>8;5>6;9>2", "10d3/0;3>8;5>6;9>2@0")
	checkRefused(t, example+"@5", "no",
		"jump 3 1", "jump 9 1", "jump 1 3", "jump 1 9", "jump 8 1", "jump 2 1", "jump 0 5", "jump 10 5", "jump 5 5", "jump 1 11", "jump 11 1", "jump 0 0",
		"jump 999999 1", "jump 1 999999", "jump 999999 999999")
	most := "100d6/1;1>0;2>0;3>0;4>0;5>0;6>0;7>0;8>0;9>0;10>0;11>0;12>0;13>0;14>0;15>0;16>0;17>0;18>0;19>0"
	checkLine(t, most+"@50", "jump 20 0", most+";20>0", most+";20>0@0")
	checkRefused(t, most+";20>0@50", "no", "jump 21 0", "jump 99 100")
}

func TestLinesOfJumpsThatAreDropped(t *testing.T) {
	checkLine(t, example+"@5", "drop 3", "10d3/0;9>2", "10d3/0;9>2@0")
	checkLine(t, example+"@5", "drop 9", "10d3/0;3>8", "10d3/0;3>8@0")
	checkLine(t, "10d3/2;3>8@10", "drop 3", "10d3/2", "10d3/2@0")
	checkRefused(t, example+"@5", "no", "drop 0", "drop 1", "drop 2", "drop 8", "drop 10", "drop 11", "drop 999999")
	checkRefused(t, "10d3/0@5", "no", "drop 3", "drop 0")
}

func TestLineOfOver(t *testing.T) {
	for over := range 3 {
		n := strconv.Itoa(over)
		text := "10d3/" + n + ";3>8;9>2"
		for _, square := range []string{"0", "8", "10"} {
			checkLine(t, example+"@"+square, "over "+n, text, text+"@"+square)
			checkLine(t, "10d3/2;3>8;9>2@"+square, "over "+n, text, text+"@"+square)
		}
	}
	checkRefused(t, example+"@8", "no", "over 3", "over 4", "over 10", "over 999999")
	checkRefused(t, example+"@8", "what", "over 1000000", "over -1", "over")
}

func TestLineOfGoing(t *testing.T) {
	checkLine(t, firstDesk, "go 3", "8", example+"@8")
	checkLine(t, firstDesk, "go 1,2", "8", example+"@8")
	checkLine(t, firstDesk, "go 3,2", "10", example+"@10")
	checkLine(t, firstDesk, "go 3,1", "2", example+"@2")
	checkLine(t, example+"@8", "go 3", "8", example+"@8")
	checkLine(t, example+"@10", "go 3,1,2", "10", example+"@10")
	checkRefused(t, example+"@5", "no", "go 0", "go 4", "go 1,0", "go 4,1", "go 1,2,999999", "go 999999")
	checkRefused(t, "10d8/0@5", "no", "go 9", "go 0")
	checkLine(t, "100d1/0@0", "go 1"+strings.Repeat(",1", 99), "100", "100d1/0@100")
	checkLine(t, "100d1/0@1", "go 1"+strings.Repeat(",1", 199), "100", "100d1/0@100")
	checkRefused(t, "100d1/0@1", "no", "go 1"+strings.Repeat(",1", 200), "path 1"+strings.Repeat(",1", 200))
}

func TestLineOfSquare(t *testing.T) {
	for _, square := range []string{"0", "1", "2", "8", "10"} {
		checkLine(t, example+"@5", "at "+square, square, example+"@"+square)
		checkTold(t, example+"@"+square, "at "+square, square)
	}
	checkRefused(t, example+"@5", "no", "at 3", "at 9", "at 11", "at 100", "at 999999")
	checkRefused(t, example+"@5", "what", "at 1000000", "at -1", "at 1,2", "at 5 5")
	checkLine(t, "100d8/0@7", "at 100", "100", "100d8/0@100")
}

func TestLinesThatShow(t *testing.T) {
	for _, text := range []string{firstDesk, example + "@8", "1d1/2@1", "100d8/1;5>6@99", "10d3/2@10"} {
		shown, square, _ := strings.Cut(text, "@")
		checkTold(t, text, "show", shown)
		checkTold(t, text, "where", square)
	}
}

func TestLineOfPath(t *testing.T) {
	checkTold(t, firstDesk, "path 3,1", "0,8,2")
	checkTold(t, firstDesk, "path 1", "0,1")
	checkTold(t, example+"@8", "path 3,3,2,1", "8,8,8,10,10")
	checkTold(t, example+"@10", "path 1,2", "10,10,10")
	checkRefused(t, firstDesk, "no", "path 0", "path 4", "path 1,2,0", "path 4,1,1", "path 999999")
	checkTold(t, "100d1/0@99", "path 1"+strings.Repeat(",1", 199), "99"+strings.Repeat(",100", 200))
}

func TestLinesOfFewestThrows(t *testing.T) {
	checkTold(t, firstDesk, "few", "2")
	checkTold(t, firstDesk, "first", "3,2")
	checkTold(t, example+"@8", "few", "1")
	checkTold(t, example+"@8", "first", "2")
	// At the end no throws are needed.
	checkTold(t, example+"@10", "few", "0")
	checkTold(t, example+"@10", "first", "-")
	checkTold(t, "1d1/0@1", "first", "-")
	// No throws lead to the end.
	checkRefused(t, "3d1/0;1>0@0", "no", "few", "first")
	checkTold(t, "3d1/0;1>0@2", "few", "1")
	checkTold(t, "3d1/0;1>0@3", "first", "-")
}

func TestLineOfLandings(t *testing.T) {
	checkTold(t, firstDesk, "land", "1,2,8")
	checkTold(t, example+"@8", "land", "2,10,8")
	checkTold(t, example+"@10", "land", "10,10,10")
	checkTold(t, "10d3/2;3>8;9>2@8", "land", "2,10,2")
	checkTold(t, "1d8/0@0", "land", "1,0,0,0,0,0,0,0")
}

func TestLineOfPartsDone(t *testing.T) {
	checkTold(t, firstDesk, "done 2", "1/9")
	checkTold(t, firstDesk, "done 0", "0/1")
	checkTold(t, example+"@10", "done 0", "1/1")
	checkTold(t, example+"@8", "done 1", "1/3")
	checkTold(t, "20d1/0@0", "done 20", "1/1")
	checkTold(t, "20d1/0@0", "done 19", "0/1")
	checkRefused(t, firstDesk, "no", "done 21", "done 22", "done 999999")
	checkRefused(t, example+"@10", "no", "done 21")
}

func TestLineOfHalfDone(t *testing.T) {
	checkTold(t, "10d3/1;3>8;9>2@8", "half", "1")
	checkTold(t, example+"@10", "half", "0")
	checkTold(t, "20d1/0@0", "half", "20")
	checkRefused(t, "21d1/0@0", "no", "half")
	checkRefused(t, "3d1/0;1>0@0", "no", "half")
	checkTold(t, "3d1/0;1>0@2", "half", "1")
}

func TestLineOfAverages(t *testing.T) {
	checkTold(t, firstDesk, "mid 1", "11/3")
	checkTold(t, firstDesk, "mid 0", "0/1")
	checkTold(t, example+"@5", "mid 0", "5/1")
	checkTold(t, example+"@10", "mid 16", "10/1")
	checkTold(t, "100d1/0@3", "mid 16", "19/1")
	checkTold(t, "100d2/0@3", "mid 1", "9/2")
	checkRefused(t, firstDesk, "no", "mid 17", "mid 20", "mid 999999")
}

func TestLinesOfGames(t *testing.T) {
	// Games begin at the start, wherever the token is.
	for _, square := range []string{"0", "8", "10"} {
		at := example + "@" + square
		checkTold(t, at, "games 3", "0,0,1,3")
		checkTold(t, at, "games 0", "0")
		checkTold(t, at, "game 2 0", "3,2")
		checkTold(t, at, "game 3 0", "1,2,2")
		checkTold(t, at, "game 3 1", "2,1,2")
		checkTold(t, at, "game 3 2", "3,3,2")
		checkRefused(t, at, "no", "game 3 3", "game 3 999999", "game 0 0", "game 1 0", "game 2 1", "game 17 0", "game 999999 0", "games 17", "games 999999")
	}
	checkTold(t, "16d1/0@0", "games 16", strings.Repeat("0,", 16)+"1")
	checkTold(t, "16d1/0@0", "game 16 0", "1"+strings.Repeat(",1", 15))
	checkTold(t, "20d1/0@0", "games 16", strings.Repeat("0,", 16)+"0")
	checkRefused(t, "16d1/0@0", "no", "game 16 1", "game 15 0")
}

func TestLineOfRace(t *testing.T) {
	checkTold(t, "4d2/1@0", "race 3", "7,1,0")
	checkTold(t, "4d2/1@0", "race 0", "1,0,0")
	checkTold(t, "4d2/1@2", "race 1", "1,1,0")
	// By 1 and 1 Other sends First back.
	checkTold(t, "4d2/1@2", "race 2", "1,2,1")
	checkTold(t, "40d1/0@0", "race 14", "1,0,0")
	checkTold(t, "40d1/0@39", "race 14", "0,1,0")
	checkRefused(t, "4d2/1@0", "no", "race 15", "race 999999")
	// There is no race on so many squares, and none of two tokens at the end.
	checkRefused(t, "41d1/0@0", "no", "race 0", "race 3")
	checkRefused(t, "4d2/1@4", "no", "race 0", "race 3")
}

func TestLineOfSum(t *testing.T) {
	for _, at := range []string{firstDesk, "1d1/2@1", "100d8/1@50"} {
		checkTold(t, at, "sum 2 6 7", "6")
		checkTold(t, at, "sum 1 12 12", "1")
		checkTold(t, at, "sum 3 2 4", "3")
		checkTold(t, at, "sum 2 3 4", "3")
		checkTold(t, at, "sum 2 6 0", "0")
		checkTold(t, at, "sum 8 12 200", "0")
		checkTold(t, at, "sum 8 12 96", "1")
		checkRefused(t, at, "no", "sum 0 6 0", "sum 9 6 9", "sum 2 0 0", "sum 2 13 2", "sum 2 6 201", "sum 2 6 999999", "sum 999999 6 7", "sum 2 999999 7")
	}
}

// goodLines are lines that fit the table, one for each of its lines.
var goodLines = []string{
	"board 4d2/1", "jump 6 1", "drop 9", "over 1", "go 3", "at 2", "show", "where", "path 3,1", "few", "first", "land", "done 2", "half", "mid 1", "games 3",
	"game 3 1", "race 3", "sum 2 6 7",
}

func TestLinesWithOtherNumbersOfWords(t *testing.T) {
	for _, line := range goodLines {
		if _, reply, ok := impl.DeskLine(impl.FirstDesk(), line); !ok || reply == "no" || reply == "what" {
			t.Error("no good line:", line, reply, ok)
		}
		words := strings.Split(line, " ")
		for n := range len(words) {
			checkRefused(t, firstDesk, "what", strings.Join(words[:n], " "))
			if n > 0 {
				checkRefused(t, firstDesk, "what", strings.Join(words[:n], " ")+" ")
			}
			checkRefused(t, firstDesk, "what", strings.Join(slices.Insert(slices.Clone(words), n+1, ""), " "))
		}
		last := words[len(words)-1]
		checkRefused(t, firstDesk, "what", line+" ", line+"  ", line+" 1", line+" "+last, line+" x", " "+line, "  "+line, line+"\t", line+"\r", line+"\x00", "\t"+line)
		checkRefused(t, firstDesk, "what", strings.ReplaceAll(line+" ", " ", "  "), strings.ReplaceAll(line+" ", " ", "\t"), strings.ReplaceAll(line+" ", " ", "\u00a0"))
	}
}

func TestOtherFirstWords(t *testing.T) {
	for _, line := range goodLines {
		checkRefused(t, firstDesk, "what", strings.ToUpper(line), strings.ToUpper(line[:1])+line[1:])
		first, rest, _ := strings.Cut(line, " ")
		for _, word := range []string{first + "x", "x" + first, first + first, first + ".", "_" + first, first[1:]} {
			checkRefused(t, firstDesk, "what", strings.TrimSuffix(word+" "+rest, " "))
		}
	}
	checkRefused(t, firstDesk, "what", "", " ", "  ", "fly", "-", "no", "what", "0", "3,1", example, "N", "over N", "1 over", "games 3 1", "game 3", "here", "shows", "\x80", "\xff few")
}

// notNumbers are words that are no numbers in 0..999999.
var notNumbers = []string{
	"", "+1", "-1", "+0", "-0", "--1", "00", "01", "007", "0000001", "1000000", "9999999", "18446744073709551617", "9223372036854775808", "-9223372036854775808", "1.0",
	"1e1", "0x1", "1_0", "x", "N", "1x", "x1", "1;2", "1,", ",1", ",", "1,2", "1,1", "-", "\u0661", "\uff11", "1\t", "\t1", "1\r", "\x001",
}

func TestWordsThatAreNoNumbers(t *testing.T) {
	for _, line := range []string{"jump 6 1", "drop 9", "over 1", "at 2", "done 2", "mid 1", "games 3", "game 3 1", "race 3", "sum 2 6 7"} {
		words := strings.Split(line, " ")
		for k := 1; k < len(words); k++ {
			for _, word := range notNumbers {
				with := slices.Clone(words)
				with[k] = word
				checkRefused(t, example+"@5", "what", strings.Join(with, " "))
			}
		}
	}
}

func TestWordsThatAreLeastAndGreatestNumbers(t *testing.T) {
	for _, line := range []string{"jump 6 1", "drop 9", "over 1", "at 2", "done 2", "mid 1", "games 3", "game 3 1", "race 3", "sum 2 6 7", "go 1", "path 1", "go 1,1"} {
		words := strings.Split(line, " ")
		for k := 1; k < len(words); k++ {
			with := slices.Clone(words)
			for _, word := range []string{"0", "1", "10", "100000", "999998", "999999"} {
				with[k] = word
				checkAsModel(t, desk(t, example+"@5"), strings.Join(with, " "))
			}
			with[k] = "999999"
			checkRefused(t, example+"@5", "no", strings.Join(with, " "))
			with[k] = "1000000"
			checkRefused(t, example+"@5", "what", strings.Join(with, " "))
		}
	}
}

func TestWordsThatAreNoLists(t *testing.T) {
	for _, first := range []string{"go ", "path "} {
		for _, list := range []string{
			"", ",", ",,", "1,", ",1", "1,,2", "1,2,", ",1,2", "1, 2", "1 ,2", "1 2", "1;2", "1.2", "-", "-,1", "1,-", "+1", "1,+1", "-1", "1,-1", "-0", "1,-0", "01", "1,01",
			"00", "1,00", "1000000", "1,1000000", "1000000,1", "18446744073709551617", "1,18446744073709551617", "x", "1,x", "L", "1,2\t", "1,2\r", "\u0661",
		} {
			checkRefused(t, firstDesk, "what", first+list)
		}
		checkRefused(t, firstDesk, "no", first+"999999", first+"1,999999", first+"0", first+"0,1")
		// Words are read before anything is done.
		checkRefused(t, firstDesk, "what", first+"0,x", first+"4,", first+"9,01")
	}
}

func TestWordsAreReadBeforeAnythingFails(t *testing.T) {
	checkRefused(t, example+"@5", "what",
		"jump 3 x", "jump 3 3 3", "drop 1 1", "drop 1 ", "over 3 ", "over 3 3", "at 3 ", "at 11 x", "done 21 ", "done 21 1", "half ", "half 1", "mid 17 17", "games 17 1",
		"game 17", "game 17 x", "game 17 0 0", "race 15 ", "sum 0 0", "sum 0 0 x", "sum 0 0 0 0", "go 4 4", "path 4 4", "few 1", "board 4d2/1 4d2/1")
}

// checkAsModel holds a line on a desk against the model, and returns the desk
// behind it.
func checkAsModel(t *testing.T, d impl.Desk, line string) impl.Desk {
	t.Helper()
	after, reply, ok := impl.DeskLine(d, line)
	want, said := modelLine(modelRows, d, line)
	if !ok || reply != said || !sameDesk(after, want) {
		t.Errorf("%s, %q: got %s, %q, %v, want %s, %q", deskText(d), line, deskText(after), reply, ok, deskText(want), said)
	}
	return after
}

var modelRows = modelTable()

func TestChangedLinesAreAsTheModel(t *testing.T) {
	d := desk(t, "6d2/1;2>5@1")
	for _, line := range append(goodLines, "board 4d2/1;3>0", "go 1,2", "drop 2", "jump 3 6") {
		for i := range len(line) + 1 {
			for _, c := range "0129,;>/d -+s" {
				checkAsModel(t, d, line[:i]+string(c)+line[i:])
				if i < len(line) {
					checkAsModel(t, d, line[:i]+string(c)+line[i+1:])
				}
			}
			checkAsModel(t, d, line[:i])
			checkAsModel(t, d, line[i:])
		}
	}
}

func TestLinesOnSeededDesksAreAsTheModel(t *testing.T) {
	for _, d := range seededDesks(150, 42) {
		for _, line := range goodLines {
			checkAsModel(t, d, line)
		}
		for _, n := range []int{0, 1, d.Square, d.Board.Squares - 1, d.Board.Squares, d.Board.Squares + 1} {
			number := strconv.Itoa(n)
			for _, line := range []string{"at " + number, "drop " + number, "jump " + number + " 0", "jump 1 " + number, "go " + number, "over " + number} {
				checkAsModel(t, d, line)
			}
		}
		for over := range 4 {
			checkAsModel(t, d, "over "+strconv.Itoa(over))
		}
		for _, j := range d.Board.Jumps {
			checkAsModel(t, d, "drop "+strconv.Itoa(j.From))
			checkAsModel(t, d, "at "+strconv.Itoa(j.From))
		}
	}
}

func TestScripts(t *testing.T) {
	checkScript(t, nil, nil, firstDesk)
	checkScript(t, []string{""}, []string{"what"}, firstDesk)
	checkScript(t, []string{"", "", "few", ""}, []string{"what", "what", "2", "what"}, firstDesk)
	checkScript(t, []string{"few"}, []string{"2"}, firstDesk)
	// Each line is executed on the desk that those before it left.
	checkScript(t,
		[]string{"at 8", "few", "jump 6 1", "where", "go 3,1", "over 2", "at 8", "go 3", "land", "show", "at 6", "drop 6", "at 6", "first"},
		[]string{"8", "1", "10d3/0;3>8;6>1;9>2", "0", "2", "10d3/2;3>8;6>1;9>2", "8", "2", "8,4,5", "10d3/2;3>8;6>1;9>2", "no", "10d3/2;3>8;9>2", "6", "1,3"},
		"10d3/2;3>8;9>2@6")
	// A line that is refused changes nothing for those behind it.
	checkScript(t,
		[]string{"go 3", "go 4", "where", "jump 3 1", "where", "show", "drop 8", "where", "over 3", "show", "board 4d2/3", "where", "at 9", "where", "at", "where"},
		[]string{"8", "no", "8", "no", "8", example, "no", "8", "no", example, "what", "8", "no", "8", "what", "8"},
		example+"@8")
	// The Square may not be on a board that comes later.
	checkScript(t,
		[]string{"at 10", "half", "first", "board 2d1/0", "where", "at 10", "at 2", "first", "board 10d3/0;3>8;9>2", "where"},
		[]string{"10", "0", "-", "2d1/0", "0", "no", "2", "-", example, "0"},
		firstDesk)
}

func TestScriptsOfMostLines(t *testing.T) {
	lines := slices.Repeat([]string{"go 1"}, 50)
	replies := []string{"1", "2", "8", "2", "8"}
	for len(replies) < 50 {
		replies = append(replies, replies[len(replies)-2])
	}
	checkScript(t, lines, replies, example+"@2")
	checkScript(t, lines[1:], replies[:49], example+"@8")
	checkScript(t, slices.Repeat([]string{""}, 50), slices.Repeat([]string{"what"}, 50), firstDesk)
	checkScript(t, slices.Repeat([]string{"at 9"}, 50), slices.Repeat([]string{"no"}, 50), firstDesk)
	checkNoScript(t, script(slices.Repeat([]string{"go 1"}, 51)))
	checkNoScript(t, strings.Repeat("\n", 51))
	checkNoScript(t, strings.Repeat("\n", 3000))
	checkNoScript(t, strings.Repeat("\n", 50)+"few")
}

func TestScriptsOfMostBytes(t *testing.T) {
	checkScript(t, []string{strings.Repeat("x", 2999)}, []string{"what"}, firstDesk)
	checkScript(t, []string{"few", strings.Repeat(" ", 2993), ""}, []string{"2", "what", "what"}, firstDesk)
	long := "go 1" + strings.Repeat(",1", 199)
	board := "board 100d1/0"
	lines := []string{board, long, board, long, board, long, board, long, board, long, board, long, board, long, "where", ""}
	replies := []string{}
	for range 7 {
		replies = append(replies, "100d1/0", "100")
	}
	replies = append(replies, "100", "what")
	// So many bytes are left for the last line.
	lines[15] = strings.Repeat("-", 3000-len(script(lines)))
	checkScript(t, lines, replies, "100d1/0@100")
	lines[15] += "-"
	checkNoScript(t, script(lines))
	checkNoScript(t, strings.Repeat("x", 3000)+"\n")
	checkNoScript(t, "few\n"+strings.Repeat(" ", 2996)+"\n")
	// A line alone has no newline, so that it may have one byte more.
	checkTold(t, firstDesk, strings.Repeat("x", 3000), "what")
	checkTold(t, firstDesk, strings.Repeat(" ", 3000), "what")
	checkTold(t, firstDesk, "few"+strings.Repeat(" ", 2997), "what")
	checkTold(t, firstDesk, "go 1"+strings.Repeat(",1", 1498), "no")
	checkTold(t, firstDesk, "at "+strings.Repeat("0", 2997), "what")
}

func TestTextsThatAreNoScripts(t *testing.T) {
	for _, s := range []string{"few", " ", "x", "few\nfew", "few\nat 9\nx", "\nfew", "\n\n ", "few\r", "few\r\nfew\r", "\x00", "few\x0b", "few\u2028", "few\\n"} {
		checkNoScript(t, s)
	}
	got, ok := impl.RunScript("few\r\nwhere\n")
	checkList(t, "a byte behind the word", got, ok, "what", "0")
}

// checkNoScript wants that a text is no script.
func checkNoScript(t *testing.T, s string) {
	t.Helper()
	checkFails(t, "no script", scriptCalls(s))
}

func TestSeededScriptsAreAsTheModel(t *testing.T) {
	said := map[string]int{}
	for seed := range int64(200) {
		lines := seededLines(seed)
		s := script(lines)
		run := modelRunOf(lines)
		got, ok := impl.RunScript(s)
		checkList(t, "RunScript", got, ok, run.replies...)
		checkListOf(t, "FailedLines", run.failed...)(impl.FailedLines(s))
		checkDeskIs(t, "DeskAfter", deskText(run.desks[len(lines)-1]))(impl.DeskAfter(s))
		d := impl.FirstDesk()
		for i, line := range lines {
			d = checkAsModel(t, d, line)
			checkDeskIs(t, line, deskText(run.desks[i]))(d, true)
			first, _, _ := strings.Cut(line, " ")
			if run.replies[i] != "no" && run.replies[i] != "what" {
				said[first]++
			} else {
				said[run.replies[i]]++
			}
		}
	}
	// Each line of the table is executed, and some are refused in both ways.
	for _, word := range append(slices.Clone(consoleWords), "no", "what") {
		if said[word] < 20 {
			t.Error("seldom:", word, said[word])
		}
	}
}

func TestChangedScriptsAreAsTheModel(t *testing.T) {
	s := "go 3\nat 9\n\nover 1\nwhere\n"
	for i := range len(s) + 1 {
		for _, c := range "\n 1a" {
			checkScriptAsModel(t, s[:i]+string(c)+s[i:])
			if i < len(s) {
				checkScriptAsModel(t, s[:i]+string(c)+s[i+1:])
			}
		}
		checkScriptAsModel(t, s[:i])
		checkScriptAsModel(t, s[i:])
	}
}

// checkScriptAsModel holds a text, a script or not, against the model.
func checkScriptAsModel(t *testing.T, s string) {
	t.Helper()
	lines, ok := modelScriptLines(s)
	if !ok {
		checkNoScript(t, s)
		return
	}
	run := modelRunOf(lines)
	got, ok := impl.RunScript(s)
	checkList(t, "RunScript", got, ok, run.replies...)
	checkListOf(t, "FailedLines", run.failed...)(impl.FailedLines(s))
	want := firstDesk
	if len(lines) > 0 {
		want = deskText(run.desks[len(lines)-1])
	}
	checkDeskIs(t, "DeskAfter", want)(impl.DeskAfter(s))
}

func TestBoardsOfEachKindOnDesks(t *testing.T) {
	for _, d := range seededDesks(100, 43) {
		text := modelBoardText(d.Board)
		checkLine(t, firstDesk, "board "+text, text, text+"@0")
		checkTold(t, deskText(d), "show", text)
		checkTold(t, deskText(d), "where", strconv.Itoa(d.Square))
	}
}
