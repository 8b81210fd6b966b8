package tests

import (
	"math"
	"reflect"
	"slices"
	"strconv"
	"testing"

	"loop.example/g01306/impl"
)

// Promise 7: tokens go on around and send others home, and plays are moves one after the other.

// checkGo wants the state behind a move, and how many tokens are sent home.
func checkGo(t *testing.T, k impl.Track, s [][]int, m []int, want [][]int, wantSent int) {
	t.Helper()
	next, sent, ok := impl.GoToken(k, s, m[0], m[1], m[2])
	checkRows(t, "GoToken", want)(next, ok)
	checkInt(t, "GoToken, sent home", sent, ok, wantSent)
	checkCan(t, k, s, m, true)
}

// checkCan wants that a token can go by a face, or that it cannot.
func checkCan(t *testing.T, k impl.Track, s [][]int, m []int, want bool) {
	t.Helper()
	if can, ok := impl.CanGo(k, s, m[0], m[1], m[2]); can != want || !ok {
		t.Errorf("CanGo %v %v: got %v, %v, want %v", s, m, can, ok, want)
	}
	if want {
		return
	}
	if next, sent, ok := impl.GoToken(k, s, m[0], m[1], m[2]); next != nil || sent != 0 || ok {
		t.Errorf("GoToken %v %v: got %v, %d, %v, want none", s, m, next, sent, ok)
	}
}

// checkPlay wants the state behind moves, and how many tokens they send home.
func checkPlay(t *testing.T, k impl.Track, moves [][]int, want [][]int, wantSent int) {
	t.Helper()
	checkRows(t, "PlayTrack", want)(impl.PlayTrack(k, moves))
	checkNumber(t, "HomesSent", wantSent)(impl.HomesSent(k, moves))
	checkNumberOrNone(t, "MoveThatCannot", 0, false)(impl.MoveThatCannot(k, moves))
}

// checkCannot wants the index of the first move that cannot be made.
func checkCannot(t *testing.T, k impl.Track, moves [][]int, want int) {
	t.Helper()
	checkNumber(t, "MoveThatCannot", want)(impl.MoveThatCannot(k, moves))
	checkFails(t, "a move cannot be made", []call{
		made("PlayTrack")(impl.PlayTrack(k, moves)),
		made("HomesSent")(impl.HomesSent(k, moves)),
	})
}

// checkIsState wants that a list is a state of a track, or that it is none.
func checkIsState(t *testing.T, k impl.Track, s [][]int, want bool) {
	t.Helper()
	if is, ok := impl.IsTrackState(k, s); is != want || !ok {
		t.Errorf("IsTrackState %v: got %v, %v, want %v", s, is, ok, want)
	}
}

// checkDonePlayer wants that a player is done, or not.
func checkDonePlayer(t *testing.T, k impl.Track, s [][]int, player int, want bool) {
	t.Helper()
	if is, ok := impl.IsDonePlayer(k, s, player); is != want || !ok {
		t.Errorf("IsDonePlayer %v %d: got %v, %v, want %v", s, player, is, ok, want)
	}
}

func TestExampleOfTracks(t *testing.T) {
	k := track(t, "8o2x1:0,4:-")
	moves := [][]int{{0, 0, 2}, {1, 0, 2}, {0, 0, 2}, {0, 0, 2}}
	checkPlay(t, k, nil, [][]int{{-1}, {-1}}, 0)
	checkPlay(t, k, moves[:1], [][]int{{0}, {-1}}, 0)
	checkPlay(t, k, moves[:2], [][]int{{0}, {0}}, 0)
	checkPlay(t, k, moves[:3], [][]int{{2}, {0}}, 0)
	checkPlay(t, k, moves, [][]int{{4}, {-1}}, 1)
	start, ok := impl.TrackStart(k)
	checkRows(t, "TrackStart", [][]int{{-1}, {-1}})(start, ok)
	checkNumber(t, "FewestMovesHome", 5)(impl.FewestMovesHome(k, start, 0))
	checkNumber(t, "TrackSquare", 0)(impl.TrackSquare(k, 0, 0))
	checkNumber(t, "TrackSquare", 4)(impl.TrackSquare(k, 0, 4))
	s := [][]int{{2}, {0}}
	checkRows(t, "TokensAt", [][]int{{0, 0}})(impl.TokensAt(k, s, 2))
	checkRows(t, "TokensAt", [][]int{{1, 0}})(impl.TokensAt(k, s, 4))
	checkListOf(t, "ThreatsTo", 0)(impl.ThreatsTo(k, s, 1))
	checkListOf(t, "ThreatsTo")(impl.ThreatsTo(k, s, 0))
	checkListOf(t, "StepsMade", 2, 0)(impl.StepsMade(k, s))
	checkNumber(t, "BestToken", 0)(impl.BestToken(k, s, 0, 2))
}

func TestAllTokensAreAtHome(t *testing.T) {
	k := track(t, "10o3x2:9,0,4:1,5")
	s, ok := impl.TrackStart(k)
	checkRows(t, "TrackStart", [][]int{{-1, -1}, {-1, -1}, {-1, -1}})(s, ok)
	checkIsState(t, k, s, true)
	checkListOf(t, "StepsMade", 0, 0, 0)(impl.StepsMade(k, s))
	for square := range 10 {
		checkRows(t, "TokensAt", nil)(impl.TokensAt(k, s, square))
	}
	for player := range 3 {
		checkListOf(t, "ThreatsTo")(impl.ThreatsTo(k, s, player))
		checkDonePlayer(t, k, s, player, false)
		checkNumber(t, "FewestMovesHome", 10)(impl.FewestMovesHome(k, s, player))
		checkListOf(t, "TokensToGo")(impl.TokensToGo(k, s, player, 1))
		checkListOf(t, "TokensToGo")(impl.TokensToGo(k, s, player, 2))
		checkListOf(t, "TokensToGo", 0, 1)(impl.TokensToGo(k, s, player, 3))
		checkNumberOrNone(t, "BestToken", 0, false)(impl.BestToken(k, s, player, 2))
		checkNumber(t, "BestToken", 0)(impl.BestToken(k, s, player, 3))
	}
}

func TestHomeIsLeftByTheGreatestFaceAlone(t *testing.T) {
	for faces := 1; faces <= 8; faces++ {
		k := track(t, "12o"+strconv.Itoa(faces)+"x1:11,3:-")
		s := [][]int{{-1}, {-1}}
		for face := 1; face < faces; face++ {
			checkCan(t, k, s, []int{0, 0, face}, false)
			checkCan(t, k, s, []int{1, 0, face}, false)
			checkCannot(t, k, [][]int{{1, 0, face}}, 0)
		}
		checkGo(t, k, s, []int{0, 0, faces}, [][]int{{0}, {-1}}, 0)
		checkGo(t, k, s, []int{1, 0, faces}, [][]int{{-1}, {0}}, 0)
		checkPlay(t, k, [][]int{{1, 0, faces}, {1, 0, 1}}, [][]int{{-1}, {1}}, 0)
	}
}

func TestStartOnWhichAnotherTokenIs(t *testing.T) {
	// The token of the player 1 is on the start of the player 0.
	s := [][]int{{-1, 3}, {4, -1}}
	k := track(t, "8o3x2:0,4:-")
	checkGo(t, k, s, []int{0, 0, 3}, [][]int{{0, 3}, {-1, -1}}, 1)
	checkListOf(t, "ThreatsTo", 0)(impl.ThreatsTo(k, s, 1))
	k = track(t, "8o3x2:0,4:0")
	checkGo(t, k, s, []int{0, 0, 3}, [][]int{{0, 3}, {4, -1}}, 0)
	checkListOf(t, "ThreatsTo")(impl.ThreatsTo(k, s, 1))
	// On the start there may be two tokens of its own player.
	checkGo(t, k, [][]int{{-1, 0}, {-1, 1}}, []int{0, 0, 3}, [][]int{{0, 0}, {-1, 1}}, 0)
	// Nobody leaves home any more: the start threatens nothing.
	checkListOf(t, "ThreatsTo")(impl.ThreatsTo(track(t, "8o3x2:0,4:-"), [][]int{{1, 8}, {4, -1}}, 1))
	// Also a start that is come to on the way around is safe or not.
	s = [][]int{{3, 3}, {0, -1}}
	checkGo(t, track(t, "8o3x2:0,4:-"), s, []int{0, 1, 1}, [][]int{{3, 4}, {-1, -1}}, 1)
	checkGo(t, track(t, "8o3x2:0,4:4"), s, []int{0, 1, 1}, [][]int{{3, 4}, {0, -1}}, 0)
}

func TestSafeSquaresWithTokensOfSeveralPlayers(t *testing.T) {
	k := track(t, "10o2x2:8,0,4,6:3,9")
	// All are on 9 or on 3, one is at home.
	s := [][]int{{1, 1}, {3, 9}, {5, -1}, {3, 7}}
	checkIsState(t, k, s, true)
	checkRows(t, "TokensAt", [][]int{{0, 0}, {0, 1}, {1, 1}, {2, 0}, {3, 0}})(impl.TokensAt(k, s, 9))
	checkRows(t, "TokensAt", [][]int{{1, 0}, {3, 1}})(impl.TokensAt(k, s, 3))
	for player := range 4 {
		checkListOf(t, "ThreatsTo")(impl.ThreatsTo(k, s, player))
	}
	// One that comes there still sends nobody home, nor does one that goes on.
	s = [][]int{{0, 1}, {3, 9}, {5, -1}, {3, 7}}
	checkGo(t, k, s, []int{0, 0, 1}, [][]int{{1, 1}, {3, 9}, {5, -1}, {3, 7}}, 0)
	checkGo(t, k, s, []int{0, 1, 1}, [][]int{{0, 2}, {3, 9}, {5, -1}, {3, 7}}, 0)
	// Without the 9 being safe it is no state.
	checkIsState(t, track(t, "10o2x2:8,0,4,6:3"), s, false)
	checkIsState(t, track(t, "10o2x2:8,0,4,6:3,8"), s, false)
	checkIsState(t, track(t, "10o2x2:8,0,4,6:9"), s, false)
}

func TestSeveralTokensOfOnePlayerAreOnOneSquare(t *testing.T) {
	k := track(t, "12o4x4:0,6,3:8")
	// On the square 7 are four tokens, on 6 two.
	s := [][]int{{7, 7, 7, 7}, {-1, 10, 11, 12}, {3, 3, -1, 12}}
	checkIsState(t, k, s, true)
	checkRows(t, "TokensAt", [][]int{{0, 0}, {0, 1}, {0, 2}, {0, 3}})(impl.TokensAt(k, s, 7))
	checkRows(t, "TokensAt", [][]int{{2, 0}, {2, 1}})(impl.TokensAt(k, s, 6))
	checkListOf(t, "ThreatsTo", 0, 1, 2, 3)(impl.ThreatsTo(k, s, 0))
	checkListOf(t, "ThreatsTo")(impl.ThreatsTo(k, s, 1))
	checkListOf(t, "ThreatsTo", 0, 1)(impl.ThreatsTo(k, s, 2))
	// All of them are sent home by one move.
	checkGo(t, k, s, []int{2, 1, 1}, [][]int{{-1, -1, -1, -1}, {-1, 10, 11, 12}, {3, 4, -1, 12}}, 4)
	checkGo(t, k, s, []int{1, 0, 4}, [][]int{{7, 7, 7, 7}, {0, 10, 11, 12}, {-1, -1, -1, 12}}, 2)
	// One that comes to others of its own player sends none of them home.
	checkGo(t, k, [][]int{{7, 6, 7, -1}, {3, 5, 6, 12}, {12, 12, 12, 12}}, []int{0, 1, 1}, [][]int{{7, 7, 7, -1}, {3, 5, 6, 12}, {12, 12, 12, 12}}, 0)
	// One that passes others sends none of them home either, nor does one on the safe square.
	s = [][]int{{7, 7, 7, 7}, {-1, 0, 11, 12}, {5, -1, -1, 12}}
	checkGo(t, k, s, []int{1, 1, 1}, [][]int{{-1, -1, -1, -1}, {-1, 1, 11, 12}, {5, -1, -1, 12}}, 4)
	checkGo(t, k, s, []int{1, 1, 2}, [][]int{{7, 7, 7, 7}, {-1, 2, 11, 12}, {5, -1, -1, 12}}, 0)
	checkGo(t, k, s, []int{1, 1, 4}, [][]int{{7, 7, 7, 7}, {-1, 4, 11, 12}, {5, -1, -1, 12}}, 0)
	// By moves from the beginning: three tokens of the player 1 are sent home.
	checkPlay(t, k, [][]int{{1, 0, 4}, {1, 1, 4}, {1, 3, 4}, {0, 2, 4}, {0, 2, 4}, {0, 2, 2}},
		[][]int{{-1, -1, 6, -1}, {-1, -1, -1, -1}, {-1, -1, -1, -1}}, 3)
}

func TestTokensComeJustToTheEnd(t *testing.T) {
	// The player 1 has a token on the start of the player 0, which is no square of a token that is done.
	k := track(t, "8o4x2:2,5:-")
	s := [][]int{{6, 8}, {5, 7}}
	checkRows(t, "TokensAt", [][]int{{1, 0}})(impl.TokensAt(k, s, 2))
	checkRows(t, "TokensAt", [][]int{{0, 0}})(impl.TokensAt(k, s, 0))
	checkGo(t, k, s, []int{0, 0, 1}, [][]int{{7, 8}, {5, 7}}, 0)
	checkGo(t, k, s, []int{0, 0, 2}, [][]int{{8, 8}, {5, 7}}, 0)
	checkCan(t, k, s, []int{0, 0, 3}, false)
	checkCan(t, k, s, []int{0, 0, 4}, false)
	for face := 1; face <= 4; face++ {
		checkCan(t, k, s, []int{0, 1, face}, false)
	}
	checkGo(t, k, s, []int{1, 1, 1}, [][]int{{6, 8}, {5, 8}}, 0)
	checkCan(t, k, s, []int{1, 1, 2}, false)
	checkListOf(t, "TokensToGo", 0, 1)(impl.TokensToGo(k, s, 1, 1))
	checkListOf(t, "TokensToGo", 0)(impl.TokensToGo(k, s, 1, 3))
	checkListOf(t, "TokensToGo")(impl.TokensToGo(k, s, 1, 4))
	checkNumberOrNone(t, "BestToken", 0, false)(impl.BestToken(k, s, 1, 4))
	checkNumberOrNone(t, "BestToken", 0, false)(impl.BestToken(k, [][]int{{8, 8}, {5, 7}}, 0, 4))
	checkListOf(t, "ThreatsTo")(impl.ThreatsTo(k, s, 1))
	checkListOf(t, "StepsMade", 14, 12)(impl.StepsMade(k, s))
	// A die may have more faces than there are squares.
	k = track(t, "4o8x1:0,1:-")
	checkCan(t, k, [][]int{{0}, {-1}}, []int{0, 0, 5}, false)
	checkGo(t, k, [][]int{{0}, {-1}}, []int{0, 0, 4}, [][]int{{4}, {-1}}, 0)
	checkNumber(t, "FewestMovesHome", 2)(impl.FewestMovesHome(k, [][]int{{0}, {-1}}, 1))
}

func TestTokensThatAreDone(t *testing.T) {
	k := track(t, "6o2x2:0,3:-")
	// Those that are done are on the start of nobody.
	s := [][]int{{6, 6}, {6, 3}}
	checkIsState(t, k, s, true)
	checkRows(t, "TokensAt", [][]int{{1, 1}})(impl.TokensAt(k, s, 0))
	checkRows(t, "TokensAt", nil)(impl.TokensAt(k, s, 3))
	checkDonePlayer(t, k, s, 0, true)
	checkDonePlayer(t, k, s, 1, false)
	checkDonePlayer(t, k, [][]int{{6, 6}, {6, 5}}, 1, false)
	checkDonePlayer(t, k, [][]int{{6, 6}, {-1, 6}}, 1, false)
	checkDonePlayer(t, k, [][]int{{6, -1}, {6, 6}}, 1, true)
	checkDonePlayer(t, k, [][]int{{6, -1}, {6, 6}}, 0, false)
	checkNumber(t, "FewestMovesHome", 0)(impl.FewestMovesHome(k, s, 0))
	checkNumber(t, "FewestMovesHome", 2)(impl.FewestMovesHome(k, s, 1))
	checkListOf(t, "StepsMade", 12, 9)(impl.StepsMade(k, s))
	checkListOf(t, "ThreatsTo")(impl.ThreatsTo(k, s, 0))
	for face := 1; face <= 2; face++ {
		checkListOf(t, "TokensToGo")(impl.TokensToGo(k, s, 0, face))
		checkListOf(t, "TokensToGo", 1)(impl.TokensToGo(k, s, 1, face))
		checkNumberOrNone(t, "BestToken", 0, false)(impl.BestToken(k, s, 0, face))
		checkNumber(t, "BestToken", 1)(impl.BestToken(k, s, 1, face))
	}
	checkCannot(t, k, [][]int{{0, 0, 2}, {0, 0, 2}, {0, 0, 2}, {0, 0, 2}, {0, 0, 1}, {0, 0, 2}}, 4)
}

func TestTracksAtTheirLimits(t *testing.T) {
	many := []int{0, 1, 2, 3, 4}
	for _, c := range []struct {
		k    impl.Track
		want bool
	}{
		{impl.Track{Squares: 3, Faces: 2, Tokens: 1, Starts: many[:2]}, false},
		{impl.Track{Squares: 4, Faces: 2, Tokens: 1, Starts: many[:2]}, true},
		{impl.Track{Squares: 5, Faces: 2, Tokens: 1, Starts: many[:2]}, true},
		{impl.Track{Squares: 59, Faces: 2, Tokens: 1, Starts: many[:2]}, true},
		{impl.Track{Squares: 60, Faces: 8, Tokens: 4, Starts: []int{59, 0, 58, 1}, Safe: []int{0, 1, 59}}, true},
		{impl.Track{Squares: 61, Faces: 8, Tokens: 4, Starts: []int{59, 0, 58, 1}, Safe: []int{0, 1, 59}}, false},
		{impl.Track{Squares: 8, Faces: 0, Tokens: 1, Starts: many[:2]}, false},
		{impl.Track{Squares: 8, Faces: 1, Tokens: 1, Starts: many[:2]}, true},
		{impl.Track{Squares: 8, Faces: 8, Tokens: 1, Starts: many[:2]}, true},
		{impl.Track{Squares: 8, Faces: 9, Tokens: 1, Starts: many[:2]}, false},
		{impl.Track{Squares: 8, Faces: 2, Tokens: 0, Starts: many[:2]}, false},
		{impl.Track{Squares: 8, Faces: 2, Tokens: 4, Starts: many[:2]}, true},
		{impl.Track{Squares: 8, Faces: 2, Tokens: 5, Starts: many[:2]}, false},
		{impl.Track{Squares: 8, Faces: 2, Tokens: 1}, false},
		{impl.Track{Squares: 8, Faces: 2, Tokens: 1, Starts: many[:1]}, false},
		{impl.Track{Squares: 8, Faces: 2, Tokens: 1, Starts: many[:3]}, true},
		{impl.Track{Squares: 8, Faces: 2, Tokens: 1, Starts: many[:4]}, true},
		{impl.Track{Squares: 8, Faces: 2, Tokens: 1, Starts: many[:5]}, false},
		{impl.Track{Squares: 8, Faces: 2, Tokens: 1, Starts: []int{7, 3, 5}}, true},
		{impl.Track{Squares: 8, Faces: 2, Tokens: 1, Starts: []int{3, 3}}, false},
		{impl.Track{Squares: 8, Faces: 2, Tokens: 1, Starts: []int{3, 4, 5, 3}}, false},
		{impl.Track{Squares: 8, Faces: 2, Tokens: 1, Starts: []int{3, 8}}, false},
		{impl.Track{Squares: 8, Faces: 2, Tokens: 1, Starts: []int{-1, 3}}, false},
		{impl.Track{Squares: 8, Faces: 2, Tokens: 1, Starts: many[:2], Safe: []int{}}, true},
		{impl.Track{Squares: 8, Faces: 2, Tokens: 1, Starts: many[:2], Safe: []int{0, 1, 2, 3, 4, 5, 6, 7}}, true},
		{impl.Track{Squares: 8, Faces: 2, Tokens: 1, Starts: many[:2], Safe: []int{0, 1, 2, 3, 4, 5, 6, 7, 8}}, false},
		{impl.Track{Squares: 8, Faces: 2, Tokens: 1, Starts: many[:2], Safe: []int{-1}}, false},
		{impl.Track{Squares: 8, Faces: 2, Tokens: 1, Starts: many[:2], Safe: []int{8}}, false},
		{impl.Track{Squares: 8, Faces: 2, Tokens: 1, Starts: many[:2], Safe: []int{5, 2}}, false},
		{impl.Track{Squares: 8, Faces: 2, Tokens: 1, Starts: many[:2], Safe: []int{2, 5, 5}}, false},
		{impl.Track{Squares: 8, Faces: 2, Tokens: 1, Starts: many[:2], Safe: []int{0, 0}}, false},
	} {
		if got := impl.IsTrack(c.k); got != c.want || modelIsTrack(c.k) != c.want {
			t.Errorf("IsTrack %+v: got %v, want %v", c.k, got, c.want)
		}
	}
}

func TestSquaresAround(t *testing.T) {
	for _, text := range []string{"4o1x1:3,0:-", "5o2x1:0,4,2:-", "60o8x4:59,0,30,58:7"} {
		k := track(t, text)
		for player, start := range k.Starts {
			for steps := range k.Squares {
				checkNumber(t, "TrackSquare", modelRound(k, player)[steps])(impl.TrackSquare(k, player, steps))
			}
			checkNumber(t, "TrackSquare of the start", start)(impl.TrackSquare(k, player, 0))
			for _, steps := range []int{math.MinInt, -1, k.Squares, k.Squares + 1, math.MaxInt} {
				checkNumberOrNone(t, "TrackSquare", 0, false)(impl.TrackSquare(k, player, steps))
			}
		}
	}
	// A token goes around behind its start, once.
	k := track(t, "5o2x1:3,1:-")
	checkPlay(t, k, [][]int{{0, 0, 2}, {0, 0, 2}, {0, 0, 2}, {0, 0, 1}}, [][]int{{5}, {-1}}, 0)
	checkCannot(t, k, [][]int{{0, 0, 2}, {0, 0, 2}, {0, 0, 2}, {0, 0, 2}}, 3)
}

func TestListsThatAreNoStates(t *testing.T) {
	k := track(t, "8o2x2:0,4:6")
	for _, s := range [][][]int{
		{{-1, -1}, {-1, -1}}, {{8, 8}, {8, 8}}, {{0, 8}, {0, -1}}, {{0, 0}, {0, 0}}, {{6, 6}, {2, 2}}, {{6, 0}, {1, 2}},
		{{1, 0}, {6, 7}}, {{4, 8}, {4, 8}},
	} {
		checkIsState(t, k, s, true)
	}
	for _, s := range [][][]int{
		nil, {}, {{}}, {{}, {}}, {nil, nil}, {{-1, -1}}, {{-1, -1}, {-1, -1}, {-1, -1}}, {{-1, -1}, {-1, -1}, {}},
		{{-1, -1}, nil}, {nil, {-1, -1}}, {{-1}, {-1, -1}}, {{-1, -1}, {-1}}, {{-1}, {-1}}, {{-1, -1, -1}, {-1, -1}},
		{{-1, -1}, {-1, -1, -1}}, {{-1, -1, -1}, {-1}}, {{-1, -1, -1, -1}}, {{-2, -1}, {-1, -1}}, {{-1, -1}, {-1, -2}},
		{{9, 0}, {0, 0}}, {{0, 0}, {0, 9}}, {{math.MinInt, 0}, {0, 0}}, {{0, 0}, {math.MaxInt, 0}},
		{{4, -1}, {0, -1}}, {{-1, 0}, {4, -1}}, {{5, 6}, {1, 2}}, {{7, 0}, {2, 3}}, {{3, 3}, {8, 7}},
	} {
		checkIsState(t, k, s, false)
	}
	// Of three players just two meet.
	k = track(t, "8o2x1:0,4,2:6")
	for _, s := range [][][]int{{{4}, {0}, {-1}}, {{4}, {1}, {2}}, {{1}, {7}, {1}}, {{2}, {6}, {0}}} {
		checkIsState(t, k, s, false)
	}
	for _, s := range [][][]int{{{4}, {1}, {1}}, {{6}, {2}, {4}}, {{8}, {4}, {7}}} {
		checkIsState(t, k, s, true)
	}
}

func TestMovesThatCannotBeMade(t *testing.T) {
	k := track(t, "8o2x2:0,4:-")
	first := []int{1, 1, 2}
	for _, none := range [][]int{
		nil, {}, {1}, {1, 1}, {1, 1, 2, 0}, {1, 1, 2, 1, 1, 2}, {-1, 1, 2}, {2, 1, 2}, {1, -1, 2}, {1, 2, 2}, {1, 1, -1}, {1, 1, 0}, {1, 1, 3},
		{math.MinInt, 0, 2}, {math.MaxInt, 0, 2}, {0, math.MinInt, 2}, {0, math.MaxInt, 2}, {0, 0, math.MinInt}, {0, 0, math.MaxInt},
		{0, 0, 1}, {1, 0, 1},
	} {
		checkCannot(t, k, [][]int{none}, 0)
		checkCannot(t, k, [][]int{none, first}, 0)
		checkCannot(t, k, [][]int{none, none}, 0)
		checkCannot(t, k, [][]int{first, none}, 1)
		checkCannot(t, k, [][]int{first, first, none, first, none}, 2)
	}
	checkPlay(t, k, [][]int{first}, [][]int{{-1, -1}, {-1, 0}}, 0)
	checkPlay(t, k, [][]int{}, [][]int{{-1, -1}, {-1, -1}}, 0)
	// What is sent home before the move that cannot be made is not told.
	checkCannot(t, k, [][]int{{0, 0, 2}, {1, 0, 2}, {0, 0, 2}, {0, 0, 2}, {1, 0, 1}}, 4)
	// That token could go on if it were not sent home.
	checkPlay(t, k, [][]int{{0, 0, 2}, {1, 0, 2}, {0, 0, 2}, {0, 0, 1}, {1, 0, 1}}, [][]int{{3, -1}, {1, -1}}, 0)
}

func TestPlaysOfMaxPlaysMoves(t *testing.T) {
	// The tokens of the player 1 go on one by one, and pass the start of the player 0.
	k := track(t, "60o1x4:0,30:-")
	var moves [][]int
	for token := range 4 {
		moves = append(moves, slices.Repeat([][]int{{1, token, 1}}, 50)...)
	}
	checkPlay(t, k, moves, [][]int{{-1, -1, -1, -1}, {49, 49, 49, 49}}, 0)
	checkPlay(t, k, moves[:199], [][]int{{-1, -1, -1, -1}, {49, 49, 49, 48}}, 0)
	changed := slices.Clone(moves)
	for _, i := range []int{0, 1, 150, 198, 199} {
		changed[i] = []int{1, 0, 2}
		checkCannot(t, k, changed, i)
		changed[i] = moves[i]
	}
	// One more is too many, whether it can be made or not.
	for _, more := range [][]int{{1, 0, 1}, {1, 0, 2}, nil} {
		checkFails(t, "too many moves", outingCalls(k, append(slices.Clone(moves), more)))
		checkFails(t, "too many moves", outingCalls(k, append([][]int{more}, moves...)))
	}
	checkFails(t, "too many moves", outingCalls(k, make([][]int, 201)))
	checkCannot(t, k, make([][]int, 200), 0)
}

func TestThreats(t *testing.T) {
	k := track(t, "12o3x3:0,6,3:5")
	for _, c := range []struct {
		s    [][]int
		want [][]int
	}{
		// The player 0 is 1, 3 and 4 squares before the tokens of the player 1.
		{[][]int{{6, -1, 12}, {1, 3, 4}, {12, 12, 12}}, [][]int{{}, {0, 1}, {}}},
		// The token of the player 1 on 2 is threatened around the end of the squares, where that of the player 2 is on 11.
		{[][]int{{12, 12, 12}, {8, 12, 12}, {8, 12, 12}}, [][]int{{}, {0}, {}}},
		// Those of the player 0 have their end there: none goes on to 2.
		{[][]int{{11, 10, 12}, {8, 12, 12}, {12, 12, 12}}, [][]int{{}, {}, {}}},
		// Only tokens at home threaten a start, and nobody threatens one's own tokens.
		{[][]int{{6, 3, 12}, {6, -1, 12}, {-1, 12, 12}}, [][]int{{0, 1}, {}, {}}},
		// A token on a safe square is not threatened, behind it another one is.
		{[][]int{{4, 12, 12}, {11, 12, 12}, {3, 12, 12}}, [][]int{{}, {}, {0}}},
	} {
		for player, want := range c.want {
			checkListOf(t, "ThreatsTo", want...)(impl.ThreatsTo(k, c.s, player))
		}
		if t.Failed() {
			t.Fatal(c.s)
		}
	}
}

func TestBestTokens(t *testing.T) {
	k := track(t, "12o3x4:0,6,2:10")
	done := []int{12, 12, 12, 12}
	for _, c := range []struct {
		s    [][]int
		face int
		want int
	}{
		// The one that sends two home, not the one that sends one or none.
		{[][]int{{1, 3, 5, 9}, {0, 12, 12, 12}, {2, 2, 12, 12}}, 1, 1},
		{[][]int{{5, 3, 1, 9}, {0, 12, 12, 12}, {2, 2, 12, 12}}, 1, 1},
		// Of those that send as many home, the one with the most steps.
		{[][]int{{1, 3, 5, 8}, {0, 12, 12, 12}, {2, 12, 12, 12}}, 1, 2},
		{[][]int{{8, 5, 3, 1}, {0, 12, 12, 12}, {2, 12, 12, 12}}, 1, 1},
		// The first one of several with as many steps.
		{[][]int{{1, 5, 5, 0}, {0, 12, 12, 12}, done}, 1, 1},
		{[][]int{{4, 4, 4, 4}, done, done}, 2, 0},
		// On a safe square none is sent home.
		{[][]int{{9, 4, 11, 12}, {4, 4, 12, 12}, {3, 12, 12, 12}}, 1, 1},
		// One at home has the least steps, but may send one home from its start.
		{[][]int{{-1, 0, 5, -1}, done, done}, 3, 2},
		{[][]int{{-1, 3, 5, -1}, {6, 12, 12, 12}, done}, 3, 0},
		{[][]int{{12, -1, 5, -1}, {6, 12, 12, 12}, done}, 3, 1},
		{[][]int{{-1, 3, 5, -1}, {6, 0, 12, 12}, done}, 3, 1},
		{[][]int{{-1, -1, 11, -1}, done, done}, 3, 0},
		// The one that comes to the end, as none that can go has more steps.
		{[][]int{{12, 9, 11, 10}, done, done}, 2, 3},
	} {
		checkIsState(t, k, c.s, true)
		checkNumber(t, "BestToken", c.want)(impl.BestToken(k, c.s, 0, c.face))
		if t.Failed() {
			t.Fatal(c.s)
		}
	}
}

func TestFewestMovesHome(t *testing.T) {
	for _, c := range []struct {
		text   string
		tokens []int
		want   int
	}{
		{"8o2x1:0,4:-", []int{-1}, 5},
		{"8o2x1:0,4:-", []int{0}, 4},
		{"8o2x1:0,4:-", []int{1}, 4},
		{"8o2x1:0,4:-", []int{2}, 3},
		{"8o2x1:0,4:-", []int{7}, 1},
		{"8o2x1:0,4:-", []int{8}, 0},
		{"60o8x4:0,4:-", []int{-1, -1, -1, -1}, 36},
		{"60o8x4:0,4:-", []int{0, 3, 4, 5}, 8 + 8 + 7 + 7},
		{"60o1x2:0,4:-", []int{-1, 59}, 61 + 1},
		{"4o8x3:0,2:-", []int{-1, 0, 3}, 2 + 1 + 1},
		{"4o4x3:0,2:-", []int{-1, 0, 4}, 2 + 1},
		{"5o4x1:0,2:-", []int{-1}, 3},
	} {
		k := track(t, c.text)
		s := [][]int{c.tokens, slices.Repeat([]int{k.Squares}, k.Tokens)}
		checkNumber(t, "FewestMovesHome "+c.text, c.want)(impl.FewestMovesHome(k, s, 0))
		checkNumber(t, "FewestMovesHome "+c.text, 0)(impl.FewestMovesHome(k, s, 1))
	}
}

func TestStepsMade(t *testing.T) {
	k := track(t, "60o8x4:0,4,9,20:-")
	checkListOf(t, "StepsMade", 0, 240, 63, 1)(impl.StepsMade(k, [][]int{{-1, -1, -1, -1}, {60, 60, 60, 60}, {-1, 60, 0, 3}, {-1, -1, 1, -1}}))
	checkListOf(t, "StepsMade", 0, 59)(impl.StepsMade(track(t, "60o8x1:0,4:-"), [][]int{{0}, {59}}))
}

// checkState holds all that is asked of a state against the model.
func checkState(t *testing.T, k impl.Track, s [][]int) {
	t.Helper()
	checkIsState(t, k, s, true)
	for square := range k.Squares {
		checkRows(t, "TokensAt", modelTokensAt(k, s, square))(impl.TokensAt(k, s, square))
	}
	for _, p := range modelPawns(k) {
		for face := 1; face <= k.Faces; face++ {
			m := append(slices.Clone(p), face)
			next, sent := modelGo(k, s, m)
			if sent < 0 {
				checkCan(t, k, s, m, false)
				continue
			}
			checkGo(t, k, s, m, next, sent)
			checkIsState(t, k, next, true)
		}
	}
	var sums []int
	for player, tokens := range s {
		checkPlayer(t, k, s, player)
		sum := 0
		for _, steps := range tokens {
			if steps > 0 {
				sum += steps
			}
		}
		sums = append(sums, sum)
	}
	checkListOf(t, "StepsMade", sums...)(impl.StepsMade(k, s))
	if t.Failed() {
		t.Fatalf("%+v %v", k, s)
	}
}

// checkPlayer holds what is asked of a player against the model.
func checkPlayer(t *testing.T, k impl.Track, s [][]int, player int) {
	t.Helper()
	fewest := modelFewestMoves(k, s[player])
	checkDonePlayer(t, k, s, player, fewest == 0)
	checkNumber(t, "FewestMovesHome", fewest)(impl.FewestMovesHome(k, s, player))
	checkListOf(t, "ThreatsTo", modelThreats(k, s, player)...)(impl.ThreatsTo(k, s, player))
	for face := 1; face <= k.Faces; face++ {
		checkListOf(t, "TokensToGo", modelToGo(k, s, player, face)...)(impl.TokensToGo(k, s, player, face))
		best := modelBest(k, s, player, face)
		checkNumberOrNone(t, "BestToken", max(best, 0), best >= 0)(impl.BestToken(k, s, player, face))
	}
}

func TestStatesOfSmallTracksAreAsTheModel(t *testing.T) {
	for _, c := range []struct {
		squares, players, tokens, share int
	}{
		{4, 2, 1, 1}, {5, 2, 1, 3}, {4, 3, 1, 29}, {4, 2, 2, 101}, {4, 4, 1, 211},
	} {
		states := statesOver(c.players, c.tokens, -1, c.squares)
		for i, k := range smallTracks(c.squares, c.players, c.tokens) {
			for j, s := range states {
				// As the share has no divisor in common with the number of states, each of these comes with some track, and each track with some state.
				if (i*len(states)+j)%c.share == 0 && modelIsState(k, s) {
					checkState(t, k, s)
				}
			}
		}
	}
}

func TestIsTrackStateOfAllSmallNumbersIsAsTheModel(t *testing.T) {
	states := slices.Concat(statesOver(2, 1, -2, 6), statesOver(2, 2, -1, 5), statesOver(3, 1, -2, 6))
	for i, text := range []string{"5o2x1:0,3:-", "5o2x1:4,1:0,2", "5o3x2:2,0:-", "5o3x2:3,4:1", "5o2x1:4,0,2:-", "5o2x1:0,1,3:3,4"} {
		k := track(t, text)
		for j, s := range states {
			if j%6 == i || len(s[0]) == k.Tokens {
				checkIsState(t, k, s, modelIsState(k, s))
			}
		}
		if t.Failed() {
			t.Fatal(text)
		}
	}
}

func TestIsTrackOfAllSmallNumbersIsAsTheModel(t *testing.T) {
	safe := [][]int{nil, {0}, {4}, {5}, {1, 3}, {3, 1}, {2, 2}, {0, 1, 2, 3}, {0, 1, 2, 3, 4}, {-1, 2}}
	var starts [][]int
	for players := 1; players <= 3; players++ {
		starts = append(starts, listsOver(players, -1, 5)...)
	}
	starts = append(starts, nil, []int{0, 1, 2, 3}, []int{3, 2, 1, 0}, []int{0, 1, 2, 0}, []int{0, 1, 2, 3, 4})
	for squares := 3; squares <= 5; squares++ {
		for _, list := range starts {
			for i, other := range safe {
				k := impl.Track{Squares: squares, Faces: i, Tokens: (i + len(list)) % 6, Starts: list, Safe: other}
				for _, k := range []impl.Track{k, {Squares: squares, Faces: 1 + i%8, Tokens: 1 + i%4, Starts: list, Safe: other}} {
					if impl.IsTrack(k) != modelIsTrack(k) {
						t.Fatalf("IsTrack %+v", k)
					}
				}
			}
		}
	}
}

func TestStatesOfLargeTracksAreAsTheModel(t *testing.T) {
	threatened, several := 0, 0
	for i, k := range largeTracks(250, 15) {
		s := seededState(k, i)
		checkState(t, k, s)
		for player := range s {
			threatened += len(modelThreats(k, s, player))
			for _, m := range modelPawns(k) {
				if _, sent := modelGo(k, s, append(m, 1+i%k.Faces)); sent > 1 {
					several++
				}
			}
		}
	}
	if threatened < 200 || several < 20 {
		t.Error("only so many tokens can be sent home, and by so many moves several:", threatened, several)
	}
}

func TestPlaysOfLargeTracksAreAsTheModel(t *testing.T) {
	homes, long := 0, 0
	for i, k := range largeTracks(250, 16) {
		moves := seededMoves(k, 200, i)
		want, sent, made := modelOuting(k, moves)
		checkPlay(t, k, moves, want, sent)
		homes += sent
		if made == 200 {
			long++
		}
		// One move is put in that cannot be made, or none.
		m := [][]int{{0, 0, k.Faces}, {i % 5, i % 3, 1}, {0, 0}, {len(k.Starts) - 1, k.Tokens - 1, 1}}[i%4]
		changed := slices.Insert(slices.Clone(moves), i%(len(moves)+1), m)
		changed = changed[:min(len(changed), 200)]
		want, sent, made = modelOuting(k, changed)
		if made == len(changed) {
			checkPlay(t, k, changed, want, sent)
		} else {
			checkCannot(t, k, changed, made)
		}
		if t.Failed() {
			t.Fatalf("%+v %v", k, changed)
		}
	}
	if homes < 1000 || long < 50 {
		t.Error("only so many tokens are sent home, and so many plays have MaxPlays moves:", homes, long)
	}
}

func TestPlaysAreMovesOneAfterTheOther(t *testing.T) {
	for i, k := range largeTracks(120, 17) {
		moves := seededMoves(k, 60, i)
		s, ok := impl.TrackStart(k)
		homes := 0
		for n, m := range moves {
			if !ok {
				t.Fatal("no state", k, moves[:n])
			}
			checkPlay(t, k, moves[:n], s, homes)
			checkCan(t, k, s, m, true)
			var sent int
			s, sent, ok = impl.GoToken(k, s, m[0], m[1], m[2])
			homes += sent
		}
		checkPlay(t, k, moves, s, homes)
		if t.Failed() {
			t.Fatalf("%+v %v", k, moves)
		}
	}
}

func TestTokensGoAroundAndSendOthersHome(t *testing.T) {
	for i, k := range largeTracks(120, 18) {
		s := seededState(k, i)
		for player := range s {
			for face := 1; face <= k.Faces; face++ {
				token, ok := impl.BestToken(k, s, player, face)
				tokens, fine := impl.TokensToGo(k, s, player, face)
				if ok != (len(tokens) > 0) || !fine {
					t.Fatal("BestToken", k, s, player, face, token, tokens)
				}
				if ok {
					checkStep(t, k, s, []int{player, token, face})
				}
			}
		}
	}
}

// checkStep wants that just the told token has gone on by the face, that it is
// alone with those of its player where it is not safe, and that those that are
// sent home were threatened.
func checkStep(t *testing.T, k impl.Track, s [][]int, m []int) {
	t.Helper()
	next, sent, ok := impl.GoToken(k, s, m[0], m[1], m[2])
	before, fine := impl.StepsMade(k, s)
	behind, same := impl.StepsMade(k, next)
	if !ok || !fine || !same {
		t.Fatal("fails", k, s, m)
	}
	if gone := behind[m[0]] - before[m[0]]; gone != m[2] && s[m[0]][m[1]] >= 0 || gone != 0 && s[m[0]][m[1]] < 0 {
		t.Error("goes by", gone, k, s, m)
	}
	for player, tokens := range s {
		threatened, ok := impl.ThreatsTo(k, s, player)
		for token, steps := range tokens {
			if player == m[0] && token == m[1] || next[player][token] == steps {
				continue
			}
			sent--
			if !ok || next[player][token] != -1 || !slices.Contains(threatened, token) {
				t.Error("is not sent home", k, s, m, player, token)
			}
		}
	}
	if sent != 0 {
		t.Error("so many more are told than are sent home:", sent, k, s, m)
	}
}

func TestFewestMovesHomeAreMade(t *testing.T) {
	for i, k := range largeTracks(60, 19) {
		s := seededState(k, i)
		for player := range s {
			left, ok := impl.FewestMovesHome(k, s, player)
			for s := cloneState(s); ok && left > 0; left-- {
				s, ok = modelNearer(k, s, player)
				checkNumber(t, "FewestMovesHome behind a move", left-1)(impl.FewestMovesHome(k, s, player))
				checkDonePlayer(t, k, s, player, left == 1)
			}
			if !ok {
				t.Fatal("no move", k, s, player)
			}
		}
	}
}

// modelNearer returns the state behind a move of the first token of a player
// that is not done, by the greatest face by which it can go.
func modelNearer(k impl.Track, s [][]int, player int) ([][]int, bool) {
	for token := range s[player] {
		for face := k.Faces; face > 0; face-- {
			if next, _, ok := impl.GoToken(k, s, player, token, face); ok {
				return next, true
			}
		}
	}
	return nil, false
}

// checkTrackText wants that a track has a text, and the text this track.
func checkTrackText(t *testing.T, k impl.Track, want string) {
	t.Helper()
	if text, ok := impl.TrackText(k); !ok || text != want {
		t.Errorf("TrackText: got %s, %v, want %s", text, ok, want)
	}
	got, ok := impl.ParseTrack(want)
	same := got.Squares == k.Squares && got.Faces == k.Faces && got.Tokens == k.Tokens
	if !ok || !same || !slices.Equal(got.Starts, k.Starts) || !slices.Equal(got.Safe, k.Safe) {
		t.Errorf("ParseTrack %s: got %+v, %v, want %+v", want, got, ok, k)
	}
}

func TestTextsOfTracks(t *testing.T) {
	checkTrackText(t, impl.Track{Squares: 8, Faces: 2, Tokens: 1, Starts: []int{0, 4}}, "8o2x1:0,4:-")
	checkTrackText(t, impl.Track{Squares: 8, Faces: 2, Tokens: 1, Starts: []int{0, 4}, Safe: []int{}}, "8o2x1:0,4:-")
	checkTrackText(t, impl.Track{Squares: 4, Faces: 1, Tokens: 4, Starts: []int{3, 2, 1, 0}, Safe: []int{0}}, "4o1x4:3,2,1,0:0")
	checkTrackText(t, impl.Track{Squares: 60, Faces: 8, Tokens: 4, Starts: []int{59, 10, 0}, Safe: []int{0, 10, 59}}, "60o8x4:59,10,0:0,10,59")
	for _, k := range largeTracks(300, 20) {
		text, ok := impl.TrackText(k)
		want, wanted := modelParseTrack(text)
		if !ok || !wanted || !slices.Equal(want.Starts, k.Starts) || !slices.Equal(want.Safe, k.Safe) {
			t.Errorf("TrackText %+v: got %s, %v", k, text, ok)
		}
		checkTrackText(t, k, text)
	}
}

func TestTextsThatAreNoTracks(t *testing.T) {
	for _, s := range []string{
		"", ":", "::", "-", "o", "x", "ox::", "8", "8o2x1", "8o2x1:", "8o2x1::", "8o2x1:0,4", "8o2x1:0,4:", "8o2x1::-", "8o2x1:-:-",
		"8o2x1:0,4:-:", "8o2x1:0,4:-:-", ":8o2x1:0,4:-", "8o2x1:0,4:,", "8o2x1:0,4:-,", "8o2x1:0,4:-,3", "8o2x1:0,4:3,-", "8o2x1:0,4:3,",
		"8o2x1:0,4:,3", "8o2x1:0,4:1,,3", "8o2x1:0,:-", "8o2x1:,0:-", "8o2x1:,0,4:-", "8o2x1:0,4,:-", "8o2x1:0,,4:-", "8o2x1:0:-", "8o2x1:0,4,-:-",
		"o2x1:0,4:-", "8ox1:0,4:-", "8o2x:0,4:-", "82x1:0,4:-", "8o21:0,4:-", "8x2o1:0,4:-", "8o2:0,4:-", "8x1:0,4:-", "8o2x1x:0,4:-", "8oo2x1:0,4:-",
		"08o2x1:0,4:-", "8o02x1:0,4:-", "8o2x01:0,4:-", "8o2x1:00,4:-", "8o2x1:0,04:-", "8o2x1:0,4:03", "8o2x1:0,4:00", "8o2x1:0,4:3,05",
		"+8o2x1:0,4:-", "8o+2x1:0,4:-", "8o2x+1:0,4:-", "8o2x1:+0,4:-", "8o2x1:0,+4:-", "8o2x1:0,4:+3", "8o2x1:-0,4:-", "8o2x1:0,-4:-", "8o2x1:0,4:-0",
		"8o2x1:0,4:-3", "8o2x1:0,4:--", "-8o2x1:0,4:-", " 8o2x1:0,4:-", "8o2x1:0,4:- ", "8o2x1: 0,4:-", "8o2x1:0, 4:-", "8o2x1:0 ,4:-", "8o2x1:0,4: 3",
		"8o2x1:0,4 :-", "8 o2x1:0,4:-", "8o 2x1:0,4:-", "8o2 x1:0,4:-", "8o2x 1:0,4:-", "8o2x1 :0,4:-", "8o2x1:0,4:-\n", "8o2x1:0,4:3,\t5", "8o2x1:0.4:-",
		"3o2x1:0,1:-", "61o2x1:0,4:-", "8o0x1:0,4:-", "8o9x1:0,4:-", "8o2x0:0,4:-", "8o2x5:0,4:-", "8o2x1:0,0:-", "8o2x1:0,8:-", "8o2x1:0,1,2,3,4:-",
		"8o2x1:0,4:8", "8o2x1:0,4:5,3", "8o2x1:0,4:3,3", "8O2x1:0,4:-", "8o2X1:0,4:-", "8o2x1:0;4:-", "8o2x1:0,4:n", "8o2x1:0,4:none", "0x8o2x1:0,4:-",
		"8o2x1:0,4:18446744073709551616", "8o2x18446744073709551617:0,4:-", "18446744073709551624o2x1:0,4:-", "8o2x1:0,1_0:-", "8o2x1:0,٤:-",
	} {
		if k, ok := impl.ParseTrack(s); ok || !isZero(reflect.ValueOf(k)) {
			t.Errorf("%q is %v, %v", s, k, ok)
		}
	}
}

func TestChangedTextsOfTracksAreAsTheModel(t *testing.T) {
	for _, text := range []string{"8o2x1:0,4:-", "10o3x4:9,0,4:1,5", "60o8x4:59,10,0,30:0,10,59"} {
		for i := range len(text) + 1 {
			for _, c := range "0123456789,:ox- +" {
				checkParseTrack(t, text[:i]+string(c)+text[i:])
				if i < len(text) {
					checkParseTrack(t, text[:i]+string(c)+text[i+1:])
					checkParseTrack(t, text[:i]+text[i+1:])
				}
			}
		}
	}
}

// checkParseTrack holds what a text is read as against the model.
func checkParseTrack(t *testing.T, s string) {
	t.Helper()
	k, ok := impl.ParseTrack(s)
	want, wanted := modelParseTrack(s)
	if ok != wanted || !reflect.DeepEqual(k, want) && ok || !ok && !isZero(reflect.ValueOf(k)) {
		t.Errorf("%q is %v, %v, want %v, %v", s, k, ok, want, wanted)
	}
}
