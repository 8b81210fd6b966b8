package tests

import (
	"math/big"
	"slices"
	"testing"

	"loop.example/g01306/impl"
)

// Promise 5: best choices need no more throws on the mean than rules, and fewest throws are enough.

// checkRows wants a list of lists.
func checkRows(t *testing.T, what string, want [][]int) func(rows [][]int, ok bool) {
	return func(rows [][]int, ok bool) {
		t.Helper()
		if !ok || !slices.EqualFunc(rows, want, slices.Equal) {
			t.Errorf("%s: got %v, %v, want %v", what, rows, ok, want)
		}
	}
}

// checkListOf wants a list of numbers.
func checkListOf(t *testing.T, what string, want ...int) func(list []int, ok bool) {
	return func(list []int, ok bool) {
		t.Helper()
		checkList(t, what, list, ok, want...)
	}
}

// checkNumber wants a number.
func checkNumber(t *testing.T, what string, want int) func(n int, ok bool) {
	return checkNumberOrNone(t, what, want, true)
}

// checkMover wants the token that moves by best choices: none for -1.
func checkMover(t *testing.T, p modelPair, face int, want int) {
	t.Helper()
	checkNumberOrNone(t, "PairChoice", max(want, 0), want >= 0)(impl.PairChoice(p.squares, p.faces, p.at[0], p.at[1], face))
}

// checkMeansOfPair wants the mean by best choices, that by the leader, that by
// the other one, and the greatest one.
func checkMeansOfPair(t *testing.T, p modelPair, best string, leader string, other string, greatest string) {
	t.Helper()
	squares, faces, a, b := p.squares, p.faces, p.at[0], p.at[1]
	checkRatText(t, "PairMean", best)(impl.PairMean(squares, faces, a, b))
	checkRatText(t, "PairByRule", leader)(impl.PairByRule(squares, faces, a, b, true))
	checkRatText(t, "PairByRule, the other one", other)(impl.PairByRule(squares, faces, a, b, false))
	checkRatText(t, "PairGreatest", greatest)(impl.PairGreatest(squares, faces, a, b))
}

// checkFewestOfPair wants all lists of the fewest throws with which the pair can
// be done.
func checkFewestOfPair(t *testing.T, p modelPair, lists ...[]int) {
	t.Helper()
	squares, faces, a, b := p.squares, p.faces, p.at[0], p.at[1]
	checkNumber(t, "PairFewest", len(lists[0]))(impl.PairFewest(squares, faces, a, b))
	checkNumber(t, "PairCountFewest", len(lists))(impl.PairCountFewest(squares, faces, a, b))
	checkListOf(t, "PairFirstThrows", lists[0]...)(impl.PairFirstThrows(squares, faces, a, b))
}

func TestExampleOfChoices(t *testing.T) {
	p := modelPair{squares: 2, faces: 2}
	checkFewestOfPair(t, p, []int{2, 2})
	checkMover(t, p, 1, 0)
	checkRatText(t, "PairMean", "4")(impl.PairMean(2, 2, 1, 1))
	checkListOf(t, "PairMoves", 0)(impl.PairMoves(2, 2, 0, 1, 2))
	// From 1 and 0 a 1 leads the token 0 to the end, and so on: 2, and 4 for the other one.
	checkMeansOfPair(t, modelPair{2, 2, [2]int{1, 0}}, "3", "3", "4", "4")
	checkMeansOfPair(t, p, "7/2", "7/2", "4", "4")
	checkRows(t, "PlayPair", [][]int{{0, 0}, {1, 0}, {1, 2}, {1, 2}, {2, 2}, {2, 2}})(impl.PlayPair(2, 2, 0, 0, []int{1, 2, 2, 1, 1}))
	checkNumber(t, "PairThrowsUsed", 4)(impl.PairThrowsUsed(2, 2, 0, 0, []int{1, 2, 2, 1, 1}))
	checkRows(t, "PairStates", [][]int{{0, 1}, {0, 2}, {1, 1}, {1, 2}, {2, 1}, {2, 2}})(impl.PairStates(2, 2, 0, 1))
	checkListOf(t, "PairMatters", 1)(impl.PairMatters(2, 2, 0, 1))
	checkListOf(t, "PairMatters of both on one square")(impl.PairMatters(2, 2, 0, 0))
}

func TestPairsThatAreDone(t *testing.T) {
	for squares := 1; squares <= impl.MaxPairSquares; squares++ {
		for faces := 1; faces <= impl.MaxPairFaces; faces++ {
			p := modelPair{squares, faces, [2]int{squares, squares}}
			end := []int{squares, squares}
			if !impl.IsPair(squares, faces, squares, squares) {
				t.Error("IsPair", p)
			}
			checkMeansOfPair(t, p, "0", "0", "0", "0")
			checkFewestOfPair(t, p, nil)
			for face := 1; face <= faces; face++ {
				checkListOf(t, "PairMoves")(impl.PairMoves(squares, faces, squares, squares, face))
				checkMover(t, p, face, -1)
			}
			checkRows(t, "PairStates", [][]int{end})(impl.PairStates(squares, faces, squares, squares))
			checkListOf(t, "PairMatters")(impl.PairMatters(squares, faces, squares, squares))
			for _, count := range []int{0, 1, impl.MaxPairThrows} {
				throws := slices.Repeat([]int{faces}, count)
				checkRows(t, "PlayPair", slices.Repeat([][]int{end}, count+1))(impl.PlayPair(squares, faces, squares, squares, throws))
				checkNumber(t, "PairThrowsUsed", 0)(impl.PairThrowsUsed(squares, faces, squares, squares, throws))
			}
		}
	}
}

// checkAlone wants that a pair of which one token is at the end goes as the
// other one alone, on a board of the chapters 1 and 3.
func checkAlone(t *testing.T, b impl.Board, square int, p modelPair) {
	t.Helper()
	squares, faces, x, y := p.squares, p.faces, p.at[0], p.at[1]
	mean := rat(impl.MeanThrows(b, square)).RatString()
	checkMeansOfPair(t, p, mean, mean, mean, mean)
	lists, ok := impl.CountFewest(b, square)
	checkNumber(t, "PairCountFewest", lists)(impl.PairCountFewest(squares, faces, x, y))
	first, fine := impl.FirstThrows(b, square)
	if !ok || !fine {
		t.Fatal("the end is not reached", b, square)
	}
	checkListOf(t, "PairFirstThrows", first...)(impl.PairFirstThrows(squares, faces, x, y))
	checkNumber(t, "PairFewest", len(first))(impl.PairFewest(squares, faces, x, y))
	checkListOf(t, "PairMatters")(impl.PairMatters(squares, faces, x, y))
	pairAt := func(square int) []int {
		if x == squares {
			return []int{squares, square}
		}
		return []int{square, squares}
	}
	throws := seededThrows(b, 30, square)
	for _, c := range []struct {
		what    string
		squares func() ([]int, bool)
		pairs   func() ([][]int, bool)
	}{
		{"PairStates", func() ([]int, bool) { return impl.ReachedFrom(b, square) }, func() ([][]int, bool) { return impl.PairStates(squares, faces, x, y) }},
		{"PlayPair", func() ([]int, bool) { return impl.PathOfThrows(b, square, throws) }, func() ([][]int, bool) { return impl.PlayPair(squares, faces, x, y, throws) }},
	} {
		alone, ok := c.squares()
		var want [][]int
		for _, at := range alone {
			want = append(want, pairAt(at))
		}
		pairs, fine := c.pairs()
		checkRows(t, c.what, want)(pairs, ok && fine)
	}
}

func TestOneTokenAtTheEnd(t *testing.T) {
	for squares := 1; squares <= impl.MaxPairSquares; squares++ {
		for faces := 1; faces <= impl.MaxPairFaces; faces++ {
			b, ok := impl.PlainBoard(squares, faces, 0)
			if !ok {
				t.Fatal("no board", squares, faces)
			}
			for square := range squares + 1 {
				checkAlone(t, b, square, modelPair{squares, faces, [2]int{square, squares}})
				checkAlone(t, b, square, modelPair{squares, faces, [2]int{squares, square}})
			}
		}
	}
	// The token 1 moves, which is no leader and no best one, but can alone.
	for face := 1; face <= 2; face++ {
		checkListOf(t, "PairMoves", 1)(impl.PairMoves(5, 3, 5, 3, face))
		checkMover(t, modelPair{5, 3, [2]int{5, 3}}, face, 1)
		checkMover(t, modelPair{5, 3, [2]int{3, 5}}, face, 0)
	}
	checkListOf(t, "PairMoves")(impl.PairMoves(5, 3, 5, 3, 3))
	checkMover(t, modelPair{5, 3, [2]int{5, 3}}, 3, -1)
}

func TestFacesByWhichOneOrNoneCanMove(t *testing.T) {
	for _, c := range []struct {
		a     int
		b     int
		moves [][]int
	}{
		{0, 0, [][]int{{0, 1}, {0, 1}, {0, 1}, {0, 1}}},
		{2, 2, [][]int{{0, 1}, {0, 1}, {0, 1}, {0, 1}}},
		{3, 2, [][]int{{0, 1}, {0, 1}, {0, 1}, {1}}},
		{2, 3, [][]int{{0, 1}, {0, 1}, {0, 1}, {0}}},
		{5, 3, [][]int{{0, 1}, {1}, {1}, nil}},
		{3, 5, [][]int{{0, 1}, {0}, {0}, nil}},
		{5, 5, [][]int{{0, 1}, nil, nil, nil}},
		{6, 5, [][]int{{1}, nil, nil, nil}},
		{4, 6, [][]int{{0}, {0}, nil, nil}},
		{6, 6, [][]int{nil, nil, nil, nil}},
	} {
		for face := 1; face <= 4; face++ {
			want := c.moves[face-1]
			checkListOf(t, "PairMoves", want...)(impl.PairMoves(6, 4, c.a, c.b, face))
			token, ok := impl.PairChoice(6, 4, c.a, c.b, face)
			if ok != (len(want) > 0) || ok && !slices.Contains(want, token) || !ok && token != 0 {
				t.Error("PairChoice", c.a, c.b, face, token, ok)
			}
			behind := []int{c.a, c.b}
			if ok {
				behind[token] += face
			}
			checkRows(t, "PlayPair", [][]int{{c.a, c.b}, behind})(impl.PlayPair(6, 4, c.a, c.b, []int{face}))
		}
	}
	// Just 1 leads on, one time of four: 4 throws for each token.
	checkMeansOfPair(t, modelPair{6, 4, [2]int{5, 5}}, "8", "8", "8", "8")
	checkMeansOfPair(t, modelPair{1, 4, [2]int{0, 0}}, "8", "8", "8", "8")
	checkMeansOfPair(t, modelPair{1, 1, [2]int{0, 0}}, "2", "2", "2", "2")
	checkFewestOfPair(t, modelPair{1, 4, [2]int{0, 0}}, []int{1, 1})
	checkRows(t, "PlayPair", [][]int{{5, 5}, {5, 5}, {5, 5}, {6, 5}, {6, 5}, {6, 6}})(impl.PlayPair(6, 4, 5, 5, []int{4, 2, 1, 3, 1}))
}

func TestBothTokensOnOneSquareAreAlike(t *testing.T) {
	for _, p := range modelPairs() {
		if p.at[0] != p.at[1] || p.done() {
			continue
		}
		for face := 1; face <= p.faces; face++ {
			want := 0
			if p.at[0]+face > p.squares {
				want = -1
			}
			checkMover(t, p, face, want)
		}
		checkListOf(t, "PairMatters")(impl.PairMatters(p.squares, p.faces, p.at[0], p.at[0]))
	}
}

func TestEquallyGoodChoicesAreForTheToken0(t *testing.T) {
	// With one face it is no matter who moves.
	for _, p := range modelPairs() {
		if p.faces == 1 && max(p.at[0], p.at[1]) < p.squares {
			checkMover(t, p, 1, 0)
			checkListOf(t, "PairMatters")(impl.PairMatters(p.squares, 1, p.at[0], p.at[1]))
		}
	}
	checkRows(t, "PlayPair", [][]int{{0, 1}, {1, 1}, {2, 1}, {2, 2}, {2, 2}})(impl.PlayPair(2, 1, 0, 1, []int{1, 1, 1, 1}))
	// On different squares: behind a 2 the mean is 3 from 2 and 1 as from 0 and 3.
	checkRatText(t, "PairMean", "3")(impl.PairMean(3, 2, 2, 1))
	checkRatText(t, "PairMean", "3")(impl.PairMean(3, 2, 0, 3))
	for _, at := range [][2]int{{0, 1}, {1, 0}} {
		checkMover(t, modelPair{3, 2, at}, 2, 0)
		checkListOf(t, "PairMatters", 1)(impl.PairMatters(3, 2, at[0], at[1]))
	}
	checkRows(t, "PlayPair", [][]int{{1, 0}, {3, 0}})(impl.PlayPair(3, 2, 1, 0, []int{2}))
	checkRows(t, "PlayPair", [][]int{{0, 1}, {2, 1}})(impl.PlayPair(3, 2, 0, 1, []int{2}))
	alike := 0
	for _, p := range modelPairs() {
		best := modelPairMeans(p.squares, p.faces, chooseBest)
		for face := 1; face <= p.faces; face++ {
			if len(p.moves(face)) < 2 || best[p.moved(0, face)].Cmp(best[p.moved(1, face)]) != 0 {
				continue
			}
			alike++
			checkMover(t, p, face, 0)
			matters, ok := impl.PairMatters(p.squares, p.faces, p.at[0], p.at[1])
			if !ok || slices.Contains(matters, face) {
				t.Error("PairMatters", p, matters, ok)
			}
		}
	}
	if alike == 0 {
		t.Error("no choices are equally good")
	}
}

func TestMeansByRules(t *testing.T) {
	checkMeansOfPair(t, modelPair{3, 2, [2]int{0, 0}}, "43/8", "45/8", "6", "25/4")
	checkMeansOfPair(t, modelPair{5, 3, [2]int{0, 0}}, "21137/2916", "10889/1458", "26/3", "2212/243")
	checkMeansOfPair(t, modelPair{6, 4, [2]int{0, 0}}, "1872983/221184", "143963/16384", "21/2", "45001/4096")
	checkMeansOfPair(t, modelPair{6, 1, [2]int{0, 0}}, "12", "12", "12", "12")
	// The leader is the token 0 or 1: both ways are alike.
	for _, p := range modelPairs() {
		for _, leader := range []bool{true, false} {
			mean := rat(impl.PairByRule(p.squares, p.faces, p.at[0], p.at[1], leader))
			checkRat(t, "PairByRule", mean)(impl.PairByRule(p.squares, p.faces, p.at[1], p.at[0], leader))
		}
	}
}

func TestFewestThrowsOfPairs(t *testing.T) {
	checkFewestOfPair(t, modelPair{6, 1, [2]int{0, 0}}, slices.Repeat([]int{1}, 12))
	checkFewestOfPair(t, modelPair{1, 1, [2]int{1, 0}}, []int{1})
	checkFewestOfPair(t, modelPair{3, 2, [2]int{1, 0}}, []int{1, 2, 2}, []int{2, 1, 2}, []int{2, 2, 1})
	// Each list is counted once, though it can be done in two ways.
	checkFewestOfPair(t, modelPair{4, 4, [2]int{1, 2}}, []int{2, 3}, []int{3, 2})
	checkFewestOfPair(t, modelPair{4, 2, [2]int{0, 0}}, []int{2, 2, 2, 2})
	checkNumber(t, "PairCountFewest", 6)(impl.PairCountFewest(5, 3, 0, 0))
	// 1 and 4 twice in 6 orders, 2 and 3 twice in 6, and each of them once in 24.
	checkNumber(t, "PairCountFewest", 36)(impl.PairCountFewest(5, 4, 0, 0))
	checkListOf(t, "PairFirstThrows", 1, 1, 4, 4)(impl.PairFirstThrows(5, 4, 0, 0))
}

func TestThrowsOfPairsUpToTheirLimit(t *testing.T) {
	throws := slices.Repeat([]int{4}, 59)
	want := slices.Repeat([][]int{{5, 6}}, 60)
	checkRows(t, "PlayPair", want)(impl.PlayPair(6, 4, 5, 6, throws))
	checkNumberOrNone(t, "PairThrowsUsed", 0, false)(impl.PairThrowsUsed(6, 4, 5, 6, throws))
	throws = append(throws, 1)
	checkRows(t, "PlayPair", append(want, []int{6, 6}))(impl.PlayPair(6, 4, 5, 6, throws))
	checkNumber(t, "PairThrowsUsed", 60)(impl.PairThrowsUsed(6, 4, 5, 6, throws))
	throws = append(throws, 1)
	checkFails(t, "a throw too many", playCalls(6, 4, 5, 6, throws))
	checkFails(t, "a throw too many", playCalls(6, 4, 6, 6, throws))
	// No throws at all.
	checkRows(t, "PlayPair", [][]int{{0, 3}})(impl.PlayPair(6, 4, 0, 3, nil))
	checkNumberOrNone(t, "PairThrowsUsed", 0, false)(impl.PairThrowsUsed(6, 4, 0, 3, nil))
	checkNumberOrNone(t, "PairThrowsUsed", 0, false)(impl.PairThrowsUsed(6, 4, 5, 6, []int{}))
	checkNumber(t, "PairThrowsUsed", 0)(impl.PairThrowsUsed(6, 4, 6, 6, nil))
	// Just enough, and one too few.
	ones := slices.Repeat([]int{1}, 12)
	checkNumber(t, "PairThrowsUsed", 12)(impl.PairThrowsUsed(6, 4, 0, 0, ones))
	checkNumberOrNone(t, "PairThrowsUsed", 0, false)(impl.PairThrowsUsed(6, 4, 0, 0, ones[:11]))
	checkNumber(t, "PairThrowsUsed", 1)(impl.PairThrowsUsed(6, 4, 5, 6, ones))
}

func TestIsPairOfAllSmallNumbers(t *testing.T) {
	for squares := -1; squares <= 8; squares++ {
		for faces := -1; faces <= 6; faces++ {
			for a := -1; a <= 9; a++ {
				for b := -1; b <= 9; b++ {
					if got := impl.IsPair(squares, faces, a, b); got != modelIsPair(squares, faces, a, b) {
						t.Error("IsPair", squares, faces, a, b, got)
					}
				}
			}
		}
	}
}

// checkPair holds all that is asked of a pair against the model, but plays.
func checkPair(t *testing.T, p modelPair, means map[string]map[modelPair]*big.Rat) {
	t.Helper()
	squares, faces, a, b := p.squares, p.faces, p.at[0], p.at[1]
	checkMeansOfPair(t, p, means["best"][p].RatString(), means["leader"][p].RatString(), means["other"][p].RatString(), means["worst"][p].RatString())
	checkFewestOfPair(t, p, modelFewestLists(p)...)
	checkRows(t, "PairStates", modelPairStates(p))(impl.PairStates(squares, faces, a, b))
	var matters []int
	for face := 1; face <= faces; face++ {
		moves := p.moves(face)
		checkListOf(t, "PairMoves", moves...)(impl.PairMoves(squares, faces, a, b, face))
		checkMover(t, p, face, modelBestMover(p, face, means["best"]))
		if len(moves) == 2 && means["best"][p.moved(0, face)].Cmp(means["best"][p.moved(1, face)]) != 0 {
			matters = append(matters, face)
		}
	}
	checkListOf(t, "PairMatters", matters...)(impl.PairMatters(squares, faces, a, b))
}

// checkPlays holds plays of a pair against the model.
func checkPlays(t *testing.T, p modelPair, best map[modelPair]*big.Rat) {
	t.Helper()
	b := impl.Board{Squares: p.squares, Faces: p.faces}
	for seed := range 10 {
		throws := seededThrows(b, seed*7%(impl.MaxPairThrows+1), seed+p.left())
		play := modelPlay(p, throws, best)
		var want [][]int
		for _, q := range play {
			want = append(want, []int{q.at[0], q.at[1]})
		}
		checkRows(t, "PlayPair", want)(impl.PlayPair(p.squares, p.faces, p.at[0], p.at[1], throws))
		used := slices.IndexFunc(play, modelPair.done)
		checkNumberOrNone(t, "PairThrowsUsed", max(used, 0), used >= 0)(impl.PairThrowsUsed(p.squares, p.faces, p.at[0], p.at[1], throws))
	}
}

func TestAllPairsAreAsTheModel(t *testing.T) {
	for _, p := range modelPairs() {
		means := map[string]map[modelPair]*big.Rat{}
		for name, choose := range map[string]modelChoose{"best": chooseBest, "worst": chooseWorst, "leader": chooseLeader, "other": chooseOther} {
			means[name] = modelPairMeans(p.squares, p.faces, choose)
		}
		checkPair(t, p, means)
		checkPlays(t, p, means["best"])
		if t.Failed() {
			t.Fatal(p)
		}
	}
}

// choicesOn returns all squares and faces by which both tokens can move.
func choicesOn(squares int, faces int) map[modelPair]map[int]int {
	index := map[modelPair]map[int]int{}
	count := 0
	for _, p := range modelPairs() {
		for face := 1; face <= faces && p.squares == squares && p.faces == faces; face++ {
			if len(p.moves(face)) < 2 {
				continue
			}
			if index[p] == nil {
				index[p] = map[int]int{}
			}
			index[p][face] = count
			count++
		}
	}
	return index
}

func TestNoChoicesAreBetterThanTheBest(t *testing.T) {
	// All ways to choose, on each squares by each face once and for all.
	for _, c := range []struct {
		squares int
		faces   int
		choices int
	}{{1, 4, 1}, {2, 1, 4}, {2, 2, 5}, {2, 3, 5}, {2, 4, 5}, {3, 1, 9}, {3, 2, 13}} {
		index := choicesOn(c.squares, c.faces)
		least, greatest := map[modelPair]*big.Rat{}, map[modelPair]*big.Rat{}
		for ways := range 1 << c.choices {
			means := modelPairMeans(c.squares, c.faces, func(p modelPair, face int, _ []*big.Rat) int {
				return ways >> index[p][face] & 1
			})
			for p, mean := range means {
				if least[p] == nil || mean.Cmp(least[p]) < 0 {
					least[p] = mean
				}
				if greatest[p] == nil || mean.Cmp(greatest[p]) > 0 {
					greatest[p] = mean
				}
			}
		}
		for p := range least {
			checkRat(t, "PairMean", least[p])(impl.PairMean(p.squares, p.faces, p.at[0], p.at[1]))
			checkRat(t, "PairGreatest", greatest[p])(impl.PairGreatest(p.squares, p.faces, p.at[0], p.at[1]))
		}
	}
}

func TestBestChoicesNeedNoMoreThrowsThanRules(t *testing.T) {
	better, worse := 0, 0
	for _, p := range modelPairs() {
		squares, faces, a, b := p.squares, p.faces, p.at[0], p.at[1]
		best, greatest := rat(impl.PairMean(squares, faces, a, b)), rat(impl.PairGreatest(squares, faces, a, b))
		for _, leader := range []bool{true, false} {
			rule := rat(impl.PairByRule(squares, faces, a, b, leader))
			if best.Cmp(rule) > 0 || rule.Cmp(greatest) > 0 {
				t.Error(p, leader, best, rule, greatest)
			}
			better += max(0, rule.Cmp(best))
			worse += max(0, greatest.Cmp(rule))
		}
		fewest, ok := impl.PairFewest(squares, faces, a, b)
		if !ok || big.NewRat(int64(fewest), 1).Cmp(best) > 0 {
			t.Error("PairFewest", p, fewest, ok, best)
		}
	}
	if better == 0 || worse == 0 {
		t.Error("no rule is worse than the best choices, or better than the worst", better, worse)
	}
}

func TestMeansOfPairsAreOneThrowAndTheMeanBehindIt(t *testing.T) {
	for _, p := range modelPairs() {
		if p.done() {
			continue
		}
		sum := new(big.Rat)
		for face := 1; face <= p.faces; face++ {
			play, ok := impl.PlayPair(p.squares, p.faces, p.at[0], p.at[1], []int{face})
			if !ok || len(play) != 2 {
				t.Fatal("PlayPair", p, face, play, ok)
			}
			sum.Add(sum, rat(impl.PairMean(p.squares, p.faces, play[1][0], play[1][1])))
		}
		sum.Mul(sum, big.NewRat(1, int64(p.faces)))
		sum.Add(sum, big.NewRat(1, 1))
		checkRat(t, "PairMean", sum)(impl.PairMean(p.squares, p.faces, p.at[0], p.at[1]))
	}
}

func TestFewestThrowsAreEnough(t *testing.T) {
	for _, p := range modelPairs() {
		throws, ok := impl.PairFirstThrows(p.squares, p.faces, p.at[0], p.at[1])
		if !ok || !modelCanBeDone(p, throws) {
			t.Error("PairFirstThrows", p, throws, ok)
		}
		checkNumber(t, "PairFewest", len(throws))(impl.PairFewest(p.squares, p.faces, p.at[0], p.at[1]))
		// Behind the first of them there is one less to throw, by some move.
		if p.done() {
			continue
		}
		least := len(throws)
		for _, q := range p.next(throws[0]) {
			n, ok := impl.PairFewest(q.squares, q.faces, q.at[0], q.at[1])
			if !ok || n < len(throws)-1 {
				t.Error("PairFewest", q, n, ok)
			}
			least = min(least, n)
		}
		checkInt(t, "PairFewest behind a throw", least, true, len(throws)-1)
	}
}

func TestPlaysOfPairsGoThrowByThrow(t *testing.T) {
	for _, p := range modelPairs() {
		throws := seededThrows(impl.Board{Squares: p.squares, Faces: p.faces}, 20, p.left())
		play, ok := impl.PlayPair(p.squares, p.faces, p.at[0], p.at[1], throws)
		if !ok || len(play) != 21 {
			t.Fatal("PlayPair", p, play, ok)
		}
		at := slices.Clone(p.at[:])
		for i, face := range throws {
			if token, ok := impl.PairChoice(p.squares, p.faces, at[0], at[1], face); ok {
				at[token] += face
			}
			checkList(t, "PlayPair", play[i+1], true, at...)
			next, ok := impl.PlayPair(p.squares, p.faces, play[i][0], play[i][1], []int{face})
			checkRows(t, "PlayPair of one throw", play[i:i+2])(next, ok)
		}
	}
}
