package tests

import (
	"math"
	"reflect"
	"slices"
	"strings"
	"testing"

	"loop.example/g01306/impl"
)

// Promise 11 for chapter 10.

// scriptCalls calls all that asks for a script.
func scriptCalls(s string) []call {
	return []call{
		made("RunScript")(impl.RunScript(s)),
		made("DeskAfter")(impl.DeskAfter(s)),
		made("FailedLines")(impl.FailedLines(s)),
	}
}

// deskCalls calls all that asks for a desk.
func deskCalls(d impl.Desk, line string) []call {
	return []call{
		made("IsDesk")(impl.IsDesk(d)),
		made("DeskLine")(impl.DeskLine(d, line)),
	}
}

// lineCalls calls DeskLine with each of some lines.
func lineCalls(d impl.Desk, lines []string) []call {
	var calls []call
	for _, line := range lines {
		calls = append(calls, made("DeskLine "+line)(impl.DeskLine(d, line)))
	}
	return calls
}

// changingLines are lines that fit the table, among them some that fail.
func changingLines() []string {
	return append(slices.Clone(goodLines), "", "fly", "few ", "at 9", "at 999999", "go 1,2,3", "go 9", "drop 3", "drop 1", "jump 3 3", "jump 4 0", "over 0", "over 2", "over 3", "board x", "board 10d3/0;4>1")
}

func TestDesksThatAreNoneFail(t *testing.T) {
	for why, b := range noBoards() {
		before := slices.Clone(b.Jumps)
		for _, square := range []int{-1, 0, 1, b.Squares} {
			for _, line := range changingLines() {
				checkFails(t, why, deskCalls(impl.Desk{Board: b, Square: square}, line))
			}
		}
		if !slices.Equal(before, b.Jumps) {
			t.Error(why, "modified:", b.Jumps)
		}
	}
	for _, square := range append(around(0, 10), 3, 9, 100, 101) {
		for _, line := range changingLines() {
			checkFails(t, "no square", deskCalls(impl.Desk{Board: board(t, example), Square: square}, line))
		}
	}
}

func TestLinesThatAreNoneFail(t *testing.T) {
	for _, text := range []string{firstDesk, "1d1/2@1"} {
		for _, line := range changingLines() {
			for _, bad := range []string{line + "\n", "\n" + line, line + "\n" + line, line + "\r\n", line + " \n", "few\n" + line} {
				checkFails(t, "a newline", lineCalls(desk(t, text), []string{bad}))
			}
		}
		for _, bad := range []string{"\n", "\n\n", strings.Repeat("x", 3001), strings.Repeat(" ", 3001), "go 1" + strings.Repeat(",1", 1499), "few" + strings.Repeat(" ", 2998), strings.Repeat("x", 2999) + "\n"} {
			checkFails(t, "no line", lineCalls(desk(t, text), []string{bad}))
		}
	}
}

func TestLinesAndScriptsThatThereAreDoNotFail(t *testing.T) {
	for _, d := range seededDesks(100, 44) {
		if !impl.IsDesk(d) {
			t.Error("no desk", d)
		}
		checkAllSucceed(t, "line", lineCalls(d, changingLines()))
	}
	for seed := range int64(30) {
		checkAllSucceed(t, "script", scriptCalls(script(seededLines(seed))))
	}
	checkAllSucceed(t, "empty", scriptCalls(""))
	checkAllSucceed(t, "refused", scriptCalls(script([]string{"", "fly", "at 9", "over 3", "\x00", "\xff"})))
}

func TestGreatestNumbersOfConsoleDoNotPanic(t *testing.T) {
	numbers := []int{math.MinInt, -1, 0, 1, 2, 8, 100, math.MaxInt}
	for _, x := range numbers {
		for _, y := range numbers {
			for _, z := range numbers {
				b := impl.Board{Squares: x, Faces: y, Over: 1, Jumps: []impl.Jump{{From: y, To: z}, {From: z, To: x}}}
				for _, line := range goodLines {
					deskCalls(impl.Desk{Board: b, Square: z}, line)
					deskCalls(impl.Desk{Board: board(t, example), Square: x}, line)
				}
			}
		}
	}
	words := append(slices.Clone(consoleWords), "", "-", "x")
	greatest := []string{"", "0", "999999", "1000000", "-9223372036854775808", "9223372036854775807", "9223372036854775808", "100d8/2", "1,999999"}
	for _, word := range words {
		for _, x := range greatest {
			for _, y := range greatest {
				for _, line := range []string{word, word + " " + x, word + " " + x + " " + y, word + " " + x + " " + y + " " + x} {
					for _, text := range []string{firstDesk, "100d8/2;1>100@100", "1d1/0@0"} {
						checkAllSucceed(t, line, lineCalls(desk(t, text), []string{line}))
					}
					checkAllSucceed(t, line, scriptCalls(line+"\n"))
				}
			}
		}
	}
	for _, s := range []string{"\n", " ", "x", "few\n", "0", ",", "go 1\n", ";", "\x00", "\xff"} {
		for _, n := range []int{1000, 3000, 100000} {
			long := strings.Repeat(s, n)
			scriptCalls(long)
			scriptCalls(long + "\n")
			lineCalls(impl.FirstDesk(), []string{long, "go " + long, "board " + long, "board 10d3/0" + long, "at " + long, "sum 1 1 " + long})
		}
	}
	for k := range 256 {
		c := string([]byte{byte(k)})
		lineCalls(impl.FirstDesk(), []string{c, "at " + c, "go 1" + c, "board 10d3/0" + c, c + "few", "few" + c})
		scriptCalls(c)
		scriptCalls("few" + c + "few\n")
	}
}

func TestSlowestScriptsEnd(t *testing.T) {
	for _, line := range []string{"race 14", "mid 16", "done 20", "half", "game 16 999999", "games 16", "sum 8 12 52", "few", "first"} {
		lines := append([]string{"board 40d8/2;5>30;31>2;38>1"}, slices.Repeat([]string{line}, 49)...)
		checkAllSucceed(t, line, scriptCalls(script(lines)))
		lines[0] = "board 100d8/2;5>30;31>2;98>1"
		checkAllSucceed(t, line, scriptCalls(script(lines)))
	}
}

// scratchConsole overwrites every list of some results, those of desks and the
// replies among them.
func scratchConsole(calls []call) {
	scratchResults(calls)
	for _, c := range calls {
		for _, r := range c.results {
			switch x := r.(type) {
			case impl.Desk:
				scratch(x.Board.Jumps, impl.Jump{From: -9, To: -9})
			case []string:
				scratch(x, "scratched")
			}
		}
	}
}

// consoleCalls calls all of the chapter that returns a list or a desk.
func consoleCalls(d impl.Desk, s string) []call {
	calls := append(lineCalls(d, changingLines()), scriptCalls(s)...)
	return append(calls, made("FirstDesk")(impl.FirstDesk()))
}

func TestDesksAndRepliesShareNoMemory(t *testing.T) {
	for seed, d := range seededDesks(60, 45) {
		var room []impl.Jump
		d.Board.Jumps, room = marked(d.Board.Jumps, impl.Jump{From: -7, To: -7})
		before := slices.Clone(room)
		s := script(seededLines(int64(seed)))
		kept := consoleCalls(d, s)
		scratchConsole(consoleCalls(d, s))
		if !reflect.DeepEqual(kept, consoleCalls(d, s)) {
			t.Error("a result is shared:", deskText(d), s)
		}
		if !slices.Equal(room, before) {
			t.Error("an argument is shared or modified:", deskText(d), room)
		}
	}
	// Scripts that change nothing return the first desk, each its own one.
	for _, s := range []string{"", "few\n", "at 9\n", "go 3\nover 1\n"} {
		kept := scriptCalls(s)
		scratchConsole(append(scriptCalls(s), made("FirstDesk")(impl.FirstDesk())))
		if !reflect.DeepEqual(kept, scriptCalls(s)) {
			t.Error("a result is shared:", s)
		}
	}
}

func TestDesksBehindLinesShareNoMemory(t *testing.T) {
	for _, text := range []string{firstDesk, example + "@8", "10d3/0;5>8@0"} {
		for _, line := range changingLines() {
			d := desk(t, text)
			after, _, ok := impl.DeskLine(d, line)
			want := deskText(after)
			scratch(d.Board.Jumps, impl.Jump{From: -9, To: -9})
			if !ok || deskText(after) != want {
				t.Error("the desk before a line is shared:", text, line, after)
			}
			d = desk(t, text)
			after, _, _ = impl.DeskLine(d, line)
			scratch(after.Board.Jumps, impl.Jump{From: -9, To: -9})
			if deskText(d) != text {
				t.Error("the desk behind a line is shared:", text, line, d)
			}
		}
	}
}

func TestArgumentsOfConsoleAreNotModified(t *testing.T) {
	for _, d := range seededDesks(60, 46) {
		var room []impl.Jump
		d.Board.Jumps, room = marked(d.Board.Jumps, impl.Jump{From: -7, To: -7})
		before := slices.Clone(room)
		want := deskText(d)
		for _, line := range changingLines() {
			deskCalls(d, line)
		}
		for _, j := range d.Board.Jumps {
			lineCalls(d, []string{"drop " + modelList([]int{j.From}), "jump " + modelList([]int{j.From - 1}) + " 0"})
		}
		if !slices.Equal(room, before) || deskText(d) != want {
			t.Error("modified:", room, "was", before)
		}
	}
}
