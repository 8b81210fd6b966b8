package tests

import (
	"math/big"
	"slices"
	"strconv"
	"testing"

	"loop.example/g01306/impl"
)

// Promise 8: games come to the end by the last throw, and are ranked in order.

// checkIsGame wants that throws are a game, or that they are none.
func checkIsGame(t *testing.T, b impl.Board, want bool, throws ...int) {
	t.Helper()
	if got, ok := impl.IsGame(b, throws); got != want || !ok {
		t.Errorf("IsGame %v: got %v, %v, want %v", throws, got, ok, want)
	}
}

// checkGameAt wants a game with a rank, and the rank of this game.
func checkGameAt(t *testing.T, b impl.Board, rank int, throws ...int) {
	t.Helper()
	checkListOf(t, "GameOfRank "+strconv.Itoa(rank), throws...)(impl.GameOfRank(b, len(throws), rank))
	checkNumber(t, "RankOfGame", rank)(impl.RankOfGame(b, throws))
	checkIsGame(t, b, true, throws...)
}

// checkNoRank wants that there is no game with a rank.
func checkNoRank(t *testing.T, b impl.Board, throws int, ranks ...int) {
	t.Helper()
	for _, rank := range ranks {
		checkFails(t, "no game of this rank", []call{made("GameOfRank")(impl.GameOfRank(b, throws, rank))})
	}
}

// checkNoRankOf wants that a list has no rank.
func checkNoRankOf(t *testing.T, b impl.Board, throws ...int) {
	t.Helper()
	checkFails(t, "no game that is ranked", []call{made("RankOfGame")(impl.RankOfGame(b, throws))})
}

// gamesThatCalls calls what fails if there is no game.
func gamesThatCalls(b impl.Board, throws int) []call {
	return []call{
		made("GameOfRank")(impl.GameOfRank(b, throws, 0)),
		made("MostJumps")(impl.MostJumps(b, throws)),
		made("FewestJumps")(impl.FewestJumps(b, throws)),
		made("AverageJumps")(impl.AverageJumps(b, throws)),
		made("SureSquares")(impl.SureSquares(b, throws)),
	}
}

// checkNoGames wants that there is no game of so many throws.
func checkNoGames(t *testing.T, b impl.Board, throws int) {
	t.Helper()
	checkFails(t, "no game", gamesThatCalls(b, throws))
	checkNoRank(t, b, throws, -1, 0, 1)
	checkNumber(t, "CountGames none", 0)(impl.CountGames(b, throws))
	for jumps := range impl.MaxGame + 1 {
		checkNumber(t, "CountGamesBy none", 0)(impl.CountGamesBy(b, throws, jumps))
	}
	for square := range b.Squares + 1 {
		if modelHolds(b, square) {
			checkNumber(t, "CountGamesOver none", 0)(impl.CountGamesOver(b, throws, square))
		}
	}
}

// checkJumpsOfGames wants by how many jumps games go at least, at most, and on
// the average.
func checkJumpsOfGames(t *testing.T, b impl.Board, throws int, fewest int, most int, average string) {
	t.Helper()
	checkNumber(t, "FewestJumps", fewest)(impl.FewestJumps(b, throws))
	checkNumber(t, "MostJumps", most)(impl.MostJumps(b, throws))
	checkRatText(t, "AverageJumps", average)(impl.AverageJumps(b, throws))
}

// checkGamesBy wants how many games go by 0, 1, .. jumps, and none by more.
func checkGamesBy(t *testing.T, b impl.Board, throws int, by ...int) {
	t.Helper()
	for jumps := range impl.MaxGame + 1 {
		want := 0
		if jumps < len(by) {
			want = by[jumps]
		}
		checkNumber(t, "CountGamesBy "+strconv.Itoa(jumps), want)(impl.CountGamesBy(b, throws, jumps))
	}
}

func TestExampleOfGames(t *testing.T) {
	b := board(t, example)
	checkNumber(t, "CountGames", 1)(impl.CountGames(b, 2))
	checkGameAt(t, b, 0, 3, 2)
	checkNoRank(t, b, 2, -1, 1)
	checkNumber(t, "JumpsOfGame", 1)(impl.JumpsOfGame(b, []int{3, 2}))
	checkGamesBy(t, b, 2, 0, 1)
	checkListOf(t, "GameTable", 0, 0, 1, 3)(impl.GameTable(b, 3))
	checkGameAt(t, b, 0, 1, 2, 2)
	checkGameAt(t, b, 1, 2, 1, 2)
	checkGameAt(t, b, 2, 3, 3, 2)
	checkNoRank(t, b, 3, -1, 3)
	checkListOf(t, "SureSquares", 0, 8, 10)(impl.SureSquares(b, 2))
	checkJumpsOfGames(t, b, 2, 1, 1, "1")
	checkJumpsOfGames(t, b, 3, 1, 1, "1")
	checkListOf(t, "SureSquares of three throws", 0, 8, 10)(impl.SureSquares(b, 3))
	checkNumber(t, "CountGamesOver 1", 1)(impl.CountGamesOver(b, 3, 1))
	checkNumber(t, "CountGamesOver 2", 1)(impl.CountGamesOver(b, 3, 2))
	checkNumber(t, "CountGamesOver 8", 3)(impl.CountGamesOver(b, 3, 8))
	checkNumber(t, "CountGamesOver 7", 0)(impl.CountGamesOver(b, 3, 7))
	checkListOf(t, "GameLengths", 2, 3, 4, 5, 6, 7, 8, 9, 10, 11, 12, 13, 14, 15, 16)(impl.GameLengths(b))
}

func TestNoThrowsAreNoGame(t *testing.T) {
	for _, text := range []string{example, "1d1/0", "1d8/1", "4d2/0;1>0;2>0", "100d8/2"} {
		b := board(t, text)
		checkNoGames(t, b, 0)
		checkListOf(t, "GameTable", 0)(impl.GameTable(b, 0))
		checkIsGame(t, b, false)
		checkNoRankOf(t, b)
		checkNumber(t, "JumpsOfGame", 0)(impl.JumpsOfGame(b, nil))
	}
}

func TestGamesOfOneThrow(t *testing.T) {
	b := board(t, "3d3/0")
	checkNumber(t, "CountGames", 1)(impl.CountGames(b, 1))
	checkGameAt(t, b, 0, 3)
	checkNoRank(t, b, 1, -1, 1)
	checkJumpsOfGames(t, b, 1, 0, 0, "0")
	checkListOf(t, "SureSquares", 0, 3)(impl.SureSquares(b, 1))
	// The faces 1 and 2 lead there too, by a jump.
	b = board(t, "3d3/0;1>3;2>3")
	checkListOf(t, "GameTable", 0, 3, 0)(impl.GameTable(b, 2))
	for rank := range 3 {
		checkGameAt(t, b, rank, rank+1)
	}
	checkNoRank(t, b, 1, -1, 3)
	checkGamesBy(t, b, 1, 1, 2)
	checkJumpsOfGames(t, b, 1, 0, 1, "2/3")
	checkListOf(t, "GameLengths", 1)(impl.GameLengths(b))
	checkNoGames(t, b, 2)
	checkNoGames(t, board(t, "3d2/1"), 1)
}

func TestGamesOnBoardOfOneSquare(t *testing.T) {
	b := board(t, "1d1/0")
	checkListOf(t, "GameTable", append([]int{0, 1}, make([]int, 15)...)...)(impl.GameTable(b, 16))
	checkListOf(t, "GameLengths", 1)(impl.GameLengths(b))
	checkGameAt(t, b, 0, 1)
	checkListOf(t, "SureSquares", 0, 1)(impl.SureSquares(b, 1))
	checkNoGames(t, b, 16)
	b = board(t, "1d8/1")
	checkListOf(t, "GameTable", 0, 8, 0)(impl.GameTable(b, 2))
	checkGameAt(t, b, 0, 1)
	checkGameAt(t, b, 7, 8)
	checkNumber(t, "CountGamesOver the start", 8)(impl.CountGamesOver(b, 1, 0))
	checkNumber(t, "CountGamesOver the end", 8)(impl.CountGamesOver(b, 1, 1))
	checkIsGame(t, b, false, 1, 1)
}

func TestGamesOfMostThrowsAndFaces(t *testing.T) {
	// All faces but 1 let the token stay.
	for _, text := range []string{"1d8/0", "1d8/2"} {
		b := board(t, text)
		const count = 4747561509943 // 7 to the power of 15
		checkNumber(t, "CountGames", count)(impl.CountGames(b, 16))
		first, last := append(slices.Repeat([]int{2}, 15), 1), append(slices.Repeat([]int{8}, 15), 1)
		checkGameAt(t, b, 0, first...)
		checkGameAt(t, b, 1, append(slices.Repeat([]int{2}, 14), 3, 1)...)
		checkGameAt(t, b, count-1, last...)
		checkNoRank(t, b, 16, -1, count)
		checkNumber(t, "CountGamesOver the start", count)(impl.CountGamesOver(b, 16, 0))
		checkNumber(t, "CountGamesOver the end", count)(impl.CountGamesOver(b, 16, 1))
		checkListOf(t, "SureSquares", 0, 1)(impl.SureSquares(b, 16))
		checkGamesBy(t, b, 16, count)
		checkJumpsOfGames(t, b, 16, 0, 0, "0")
		checkListOf(t, "GameLengths", 1, 2, 3, 4, 5, 6, 7, 8, 9, 10, 11, 12, 13, 14, 15, 16)(impl.GameLengths(b))
	}
	// All faces but 8 lead back to the start by a jump.
	b := board(t, "8d8/0;1>0;2>0;3>0;4>0;5>0;6>0;7>0")
	checkNumber(t, "CountGamesBy", 4747561509943)(impl.CountGamesBy(b, 16, 15))
	checkJumpsOfGames(t, b, 16, 15, 15, "15")
	checkListOf(t, "SureSquares", 0, 8)(impl.SureSquares(b, 16))
	b = board(t, "100d8/1")
	table, ok := impl.GameTable(b, 16)
	for throws, n := range table {
		want := modelEndings(b, throws, -1)[0]
		if !ok || want.Cmp(big.NewInt(int64(n))) != 0 {
			t.Error("GameTable", throws, n, ok, "want", want)
		}
	}
}

func TestBoardsWhoseEndNothingLeadsTo(t *testing.T) {
	for _, text := range []string{"4d2/0;1>0;2>0", "6d2/1;1>0;2>0;4>6", "100d8/2;1>0;2>0;3>0;4>0;5>0;6>0;7>0;8>0"} {
		b := board(t, text)
		for throws := range impl.MaxGame + 1 {
			checkNoGames(t, b, throws)
			checkIsGame(t, b, false, slices.Repeat([]int{1}, throws)...)
			checkNoRankOf(t, b, slices.Repeat([]int{2}, throws)...)
		}
		checkListOf(t, "GameTable", make([]int, 17)...)(impl.GameTable(b, 16))
		checkListOf(t, "GameLengths")(impl.GameLengths(b))
	}
	// It is led to, but by too many throws.
	b := board(t, "17d1/0")
	checkListOf(t, "GameLengths")(impl.GameLengths(b))
	checkNoGames(t, b, 16)
	b = board(t, "16d1/0")
	checkListOf(t, "GameLengths", 16)(impl.GameLengths(b))
	checkGameAt(t, b, 0, slices.Repeat([]int{1}, 16)...)
	checkNoGames(t, b, 15)
}

func TestGamesByThreeWaysBeyondTheEnd(t *testing.T) {
	for over, want := range [][]int{{0, 1, 1, 1, 1}, {0, 1, 2, 0, 0}, {0, 1, 1, 1, 1}} {
		b := board(t, "2d2/"+strconv.Itoa(over))
		checkListOf(t, "GameTable", want...)(impl.GameTable(b, 4))
	}
	// From 4 a throw of 3 stays, ends the game, or comes back to 3 and jumps to 1.
	for over, c := range []struct {
		four  bool
		three bool
		five  bool
		jumps int
	}{
		{true, false, true, 0},
		{false, true, false, 0},
		{false, false, true, 1},
	} {
		b := board(t, "5d3/"+strconv.Itoa(over)+";3>1")
		checkIsGame(t, b, c.four, 2, 2, 3, 1)
		checkIsGame(t, b, c.three, 2, 2, 3)
		checkIsGame(t, b, c.five, 2, 2, 3, 3, 1)
		checkNumber(t, "JumpsOfGame", c.jumps)(impl.JumpsOfGame(b, []int{2, 2, 3, 3, 1}))
	}
}

func TestTokensThatStayBeyondTheEndMakeNoJump(t *testing.T) {
	// From 3 all faces but 1 stay.
	b := board(t, "4d8/0;1>0;2>3")
	checkNumber(t, "JumpsOfGame", 0)(impl.JumpsOfGame(b, []int{3, 6, 8, 5, 2, 1}))
	checkNumber(t, "JumpsOfGame", 1)(impl.JumpsOfGame(b, []int{2, 6, 8, 5, 2, 1}))
	// From 3 back from the end, 3 leads to 2 and 4 to 1, where jumps begin, and 5
	// to the start; 6 and more stay.
	b = board(t, "4d8/2;1>0;2>3")
	checkNumber(t, "JumpsOfGame", 1)(impl.JumpsOfGame(b, []int{3, 3, 1}))
	checkNumber(t, "JumpsOfGame", 1)(impl.JumpsOfGame(b, []int{3, 4, 4}))
	checkNumber(t, "JumpsOfGame", 0)(impl.JumpsOfGame(b, []int{3, 5, 4}))
	checkNumber(t, "JumpsOfGame", 0)(impl.JumpsOfGame(b, []int{3, 6, 7, 8, 1}))
}

func TestListsThatAreNoGames(t *testing.T) {
	b := board(t, example)
	// They come to the end before the last throw.
	for _, throws := range [][]int{{3, 2, 1}, {3, 2, 3, 3}, {1, 2, 2, 1, 1, 1}} {
		checkIsGame(t, b, false, throws...)
		checkNoRankOf(t, b, throws...)
		checkNumber(t, "JumpsOfGame", 1)(impl.JumpsOfGame(b, throws))
	}
	// They never come there.
	for _, throws := range [][]int{{1}, {3}, {3, 1}, {3, 3, 3, 3}, {1, 1, 2, 3, 1, 1}, slices.Repeat([]int{3}, 16)} {
		checkIsGame(t, b, false, throws...)
		checkNoRankOf(t, b, throws...)
	}
	checkNumber(t, "JumpsOfGame", 2)(impl.JumpsOfGame(b, []int{3, 1, 3, 1, 1}))
	// Both jumps again and again: from 2 by a 1 to 8, and by a 1 back.
	checkNumber(t, "JumpsOfGame", 199)(impl.JumpsOfGame(b, append([]int{2}, slices.Repeat([]int{1}, 199)...)))
}

func TestLongLists(t *testing.T) {
	b := board(t, "1d8/0")
	for _, throws := range []int{16, 17, 18, 100, 199, 200} {
		list := append(slices.Repeat([]int{5}, throws-1), 1)
		checkIsGame(t, b, true, list...)
		if throws > impl.MaxGame {
			checkNoRankOf(t, b, list...)
		}
		checkNumber(t, "JumpsOfGame", 0)(impl.JumpsOfGame(b, list))
		list[throws-2] = 1
		checkIsGame(t, b, false, list...)
		checkNoRankOf(t, b, list...)
		// The face 1 leads back to the start each time, and 2 to the end.
		jumping := board(t, "3d2/0;1>0;2>3")
		list = append(slices.Repeat([]int{1}, throws-1), 2)
		checkIsGame(t, jumping, true, list...)
		checkNumber(t, "JumpsOfGame", throws)(impl.JumpsOfGame(jumping, list))
		list[0] = 2
		checkIsGame(t, jumping, false, list...)
		checkNumber(t, "JumpsOfGame over the end", 1)(impl.JumpsOfGame(jumping, list))
	}
}

func TestGamesByJumps(t *testing.T) {
	// Each throw goes by a jump: 1 back to the start, 2 to the end.
	b := board(t, "3d2/0;1>0;2>3")
	for throws := 1; throws <= impl.MaxGame; throws++ {
		checkGamesBy(t, b, throws, append(make([]int, throws), 1)...)
		checkJumpsOfGames(t, b, throws, throws, throws, strconv.Itoa(throws))
		checkGameAt(t, b, 0, append(slices.Repeat([]int{1}, throws-1), 2)...)
		checkListOf(t, "SureSquares", 0, 3)(impl.SureSquares(b, throws))
	}
	// By no jump, by one and by several: 1 leads to the jump back, and 3 past it.
	b = board(t, "4d3/0;1>0")
	// 2 2 and 3 1; 1 2 2, 1 3 1, 2 1 1, 2 3 2, 3 2 1 and 3 3 1.
	checkListOf(t, "GameTable", 0, 0, 2, 6, 14)(impl.GameTable(b, 4))
	checkGamesBy(t, b, 2, 2)
	checkGamesBy(t, b, 3, 4, 2)
	checkGamesBy(t, b, 4, 8, 4, 2)
	checkJumpsOfGames(t, b, 3, 0, 1, "1/3")
	checkJumpsOfGames(t, b, 4, 0, 2, "4/7")
	// 2 2; 1 1 2; and by the jump 1 2 2 2 and 2 1 2 2.
	b = board(t, "4d2/0;3>0")
	checkListOf(t, "GameTable", 0, 0, 1, 1, 2)(impl.GameTable(b, 4))
	checkNumber(t, "FewestJumps", 0)(impl.FewestJumps(b, 2))
	checkNumber(t, "FewestJumps", 0)(impl.FewestJumps(b, 3))
	checkNumber(t, "FewestJumps", 1)(impl.FewestJumps(b, 4))
	checkNumber(t, "MostJumps", 1)(impl.MostJumps(b, 4))
}

func TestGamesOverSquares(t *testing.T) {
	b := board(t, "4d2/1")
	// 1 1 1 1, 1 1 1 2, 1 1 2, 1 2 1, 1 2 2, 2 1 1, 2 1 2 and 2 2.
	checkListOf(t, "GameTable", 0, 0, 1, 5, 2)(impl.GameTable(b, 4))
	for square, want := range []int{5, 3, 3, 4, 5} {
		checkNumber(t, "CountGamesOver "+strconv.Itoa(square), want)(impl.CountGamesOver(b, 3, square))
	}
	for square, want := range []int{1, 0, 1, 0, 1} {
		checkNumber(t, "CountGamesOver "+strconv.Itoa(square), want)(impl.CountGamesOver(b, 2, square))
	}
	checkListOf(t, "SureSquares", 0, 4)(impl.SureSquares(b, 3))
	checkListOf(t, "SureSquares", 0, 2, 4)(impl.SureSquares(b, 2))
	checkListOf(t, "SureSquares", 0, 1, 2, 3, 4)(impl.SureSquares(b, 4))
	// A game that comes to a square several times counts once.
	b = board(t, "4d3/0;1>0")
	checkNumber(t, "CountGamesOver the start", 6)(impl.CountGamesOver(b, 3, 0))
	checkNumber(t, "CountGamesOver 3", 4)(impl.CountGamesOver(b, 3, 3))
}

func TestRanksThatThereAre(t *testing.T) {
	for _, text := range []string{example, "10d3/1;3>8;9>2", "10d3/2;3>8;9>2"} {
		b := board(t, text)
		for throws := 2; throws <= impl.MaxGame; throws++ {
			count, ok := impl.CountGames(b, throws)
			if !ok || count == 0 {
				t.Fatal("CountGames", text, throws, count, ok)
			}
			for _, rank := range []int{0, count - 1} {
				game, ok := impl.GameOfRank(b, throws, rank)
				if !ok || !modelOf(b, game).isOne(b) {
					t.Fatal("GameOfRank", text, throws, rank, game, ok)
				}
				checkGameAt(t, b, rank, game...)
			}
			checkNoRank(t, b, throws, -1, count, count+1)
		}
	}
}

// checkAllGames holds all that is asked of so many throws against the model.
func checkAllGames(t *testing.T, b impl.Board, throws int) {
	t.Helper()
	games := modelGames(b, throws)
	checkNumber(t, "CountGames", len(games))(impl.CountGames(b, throws))
	checkNoRank(t, b, throws, -1, len(games))
	if len(games) == 0 {
		checkNoGames(t, b, throws)
		return
	}
	by, over := make([]int, throws+1), make([]int, b.Squares+1)
	for rank, game := range games {
		checkGameAt(t, b, rank, game.throws...)
		by[game.jumps]++
		for square := range over {
			if slices.Contains(game.path, square) {
				over[square]++
			}
		}
	}
	checkGamesBy(t, b, throws, by...)
	checkSummedJumps(t, b, games)
	var sure []int
	for square, n := range over {
		if n == len(games) {
			sure = append(sure, square)
		}
		if modelHolds(b, square) {
			checkNumber(t, "CountGamesOver", n)(impl.CountGamesOver(b, throws, square))
		} else {
			checkFails(t, "a jump begins there", []call{made("CountGamesOver")(impl.CountGamesOver(b, throws, square))})
		}
	}
	checkListOf(t, "SureSquares", sure...)(impl.SureSquares(b, throws))
}

// checkSummedJumps holds the jumps of all games of a number of throws against
// the model.
func checkSummedJumps(t *testing.T, b impl.Board, games []modelGame) {
	t.Helper()
	throws := len(games[0].throws)
	fewest, most, sum := games[0].jumps, games[0].jumps, 0
	for _, game := range games {
		fewest, most, sum = min(fewest, game.jumps), max(most, game.jumps), sum+game.jumps
	}
	checkJumpsOfGames(t, b, throws, fewest, most, big.NewRat(int64(sum), int64(len(games))).String())
}

// checkLists holds lists of throws, games or not, against the model.
func checkLists(t *testing.T, b impl.Board, throws int) {
	t.Helper()
	for _, list := range modelAllLists(b.Faces, throws) {
		game := modelOf(b, list)
		checkIsGame(t, b, game.isOne(b), list...)
		checkNumber(t, "JumpsOfGame", game.jumps)(impl.JumpsOfGame(b, list))
		if !game.isOne(b) {
			checkNoRankOf(t, b, list...)
		}
	}
}

func TestGamesOfSmallBoardsAreAsTheModel(t *testing.T) {
	for i, b := range smallBoards() {
		var table, lengths []int
		for throws := range impl.MaxGame + 1 {
			if modelPower(b.Faces, throws).Int64() > 256 {
				break
			}
			checkAllGames(t, b, throws)
			if (i+throws)%2 == 0 {
				checkLists(t, b, throws)
			}
			table = append(table, len(modelGames(b, throws)))
			if table[throws] > 0 {
				lengths = append(lengths, throws)
			}
		}
		checkListOf(t, "GameTable", table...)(impl.GameTable(b, len(table)-1))
		got, ok := impl.GameLengths(b)
		checkList(t, "GameLengths", got[:min(len(got), len(lengths))], ok, lengths...)
		if t.Failed() {
			t.Fatal(b)
		}
	}
}

// checkBig wants a number that may be a great one.
func checkBig(t *testing.T, what string, want *big.Int) func(n int, ok bool) {
	return func(n int, ok bool) {
		t.Helper()
		if !ok || want.Cmp(big.NewInt(int64(n))) != 0 {
			t.Errorf("%s: got %d, %v, want %v", what, n, ok, want)
		}
	}
}

// checkManyJumps holds the jumps of many games against the model.
func checkManyJumps(t *testing.T, b impl.Board, throws int, count *big.Int) {
	t.Helper()
	by := modelByJumps(b, throws)
	sum, fewest, most := new(big.Int), impl.MaxGame, 0
	for jumps := range impl.MaxGame + 1 {
		n := by[jumps]
		if n == nil {
			n = new(big.Int)
		} else {
			fewest, most = min(fewest, jumps), max(most, jumps)
		}
		checkBig(t, "CountGamesBy", n)(impl.CountGamesBy(b, throws, jumps))
		sum.Add(sum, new(big.Int).Mul(n, big.NewInt(int64(jumps))))
	}
	checkJumpsOfGames(t, b, throws, fewest, most, new(big.Rat).SetFrac(sum, count).String())
}

// checkManyOver holds the squares of many games against the model.
func checkManyOver(t *testing.T, b impl.Board, throws int, count *big.Int) {
	t.Helper()
	var sure []int
	for square := range b.Squares + 1 {
		if !modelHolds(b, square) {
			continue
		}
		over := new(big.Int)
		if square == 0 {
			over.Set(count)
		} else {
			over.Sub(count, modelEndings(b, throws, square)[0])
		}
		checkBig(t, "CountGamesOver", over)(impl.CountGamesOver(b, throws, square))
		if over.Cmp(count) == 0 {
			sure = append(sure, square)
		}
	}
	checkListOf(t, "SureSquares", sure...)(impl.SureSquares(b, throws))
}

func TestGamesOfLargeBoardsAreAsTheModel(t *testing.T) {
	several := 0
	for i, b := range largeBoards(120, 17) {
		throws := 1 + i%impl.MaxGame
		count := modelEndings(b, throws, -1)[0]
		checkBig(t, "CountGames", count)(impl.CountGames(b, throws))
		if count.Sign() == 0 {
			checkNoGames(t, b, throws)
			continue
		}
		several++
		checkManyJumps(t, b, throws, count)
		checkManyOver(t, b, throws, count)
		if t.Failed() {
			t.Fatal(b, throws)
		}
	}
	if several < 40 {
		t.Error("just", several, "boards with games")
	}
}

func TestNumbersOfThrowsOfLargeBoardsAreAsTheModel(t *testing.T) {
	for _, b := range largeBoards(30, 21) {
		var table, lengths []int
		for throws := range impl.MaxGame + 1 {
			table = append(table, int(modelEndings(b, throws, -1)[0].Int64()))
			if table[throws] > 0 {
				lengths = append(lengths, throws)
			}
			checkListOf(t, "GameTable", table...)(impl.GameTable(b, throws))
		}
		checkListOf(t, "GameLengths", lengths...)(impl.GameLengths(b))
		if t.Failed() {
			t.Fatal(b)
		}
	}
}

func TestGamesOfLargeBoardsAreRankedInOrder(t *testing.T) {
	for i, b := range largeBoards(120, 18) {
		throws := 1 + (5*i)%impl.MaxGame
		count, ok := impl.CountGames(b, throws)
		if !ok {
			t.Fatal("CountGames", b, throws)
		}
		for part := range 7 {
			rank := count / 6 * part
			if part == 6 {
				rank = count - 1
			}
			if rank < 0 || rank >= count {
				continue
			}
			game, ok := impl.GameOfRank(b, throws, rank)
			if !ok || len(game) != throws || !modelOf(b, game).isOne(b) {
				t.Fatal("GameOfRank", b, throws, rank, game, ok)
			}
			checkGameAt(t, b, rank, game...)
			checkBig(t, "RankOfGame", modelRank(b, game))(impl.RankOfGame(b, game))
			next, ok := impl.GameOfRank(b, throws, rank+1)
			if ok != (rank+1 < count) || ok && slices.Compare(game, next) >= 0 {
				t.Error("the next rank", b, throws, rank, game, next, ok)
			}
		}
		checkNoRank(t, b, throws, -1, count, count+1)
	}
}

func TestSeededGamesAreRanked(t *testing.T) {
	ranked := 0
	for i, b := range largeBoards(150, 19) {
		game, ok := seededGame(b, impl.MaxGame, int64(i))
		if !ok {
			continue
		}
		ranked++
		rank := modelRank(b, game)
		checkGameAt(t, b, int(rank.Int64()), game...)
		checkNumber(t, "JumpsOfGame", modelOf(b, game).jumps)(impl.JumpsOfGame(b, game))
		longer := append(slices.Clone(game), 1)
		checkIsGame(t, b, false, longer...)
		checkNoRankOf(t, b, longer...)
		checkIsGame(t, b, false, game[:len(game)-1]...)
		checkNoRankOf(t, b, game[:len(game)-1]...)
	}
	if ranked < 60 {
		t.Error("just", ranked, "games")
	}
}

func TestLongListsAreAsTheModel(t *testing.T) {
	for i, b := range largeBoards(200, 20) {
		throws := seededThrows(b, i+1, i)
		game := modelOf(b, throws)
		checkIsGame(t, b, game.isOne(b), throws...)
		checkNumber(t, "JumpsOfGame", game.jumps)(impl.JumpsOfGame(b, throws))
		end := slices.Index(game.path, b.Squares)
		if end < 0 {
			continue
		}
		checkIsGame(t, b, true, throws[:end]...)
		if end > impl.MaxGame {
			checkNoRankOf(t, b, throws[:end]...)
		}
	}
}
