package tests

import (
	"math"
	"reflect"
	"slices"
	"strings"
	"testing"

	"loop.example/g01306/impl"
)

// Promise 11 for chapter 7.

// outingCalls calls what takes moves: the last call fails if all can be made,
// the others if not.
func outingCalls(k impl.Track, moves [][]int) []call {
	return []call{
		made("PlayTrack")(impl.PlayTrack(k, moves)),
		made("HomesSent")(impl.HomesSent(k, moves)),
		made("MoveThatCannot")(impl.MoveThatCannot(k, moves)),
	}
}

// trackOnlyCalls calls what asks for a track alone.
func trackOnlyCalls(k impl.Track) []call {
	return []call{
		made("IsTrack")(impl.IsTrack(k)),
		made("TrackStart")(impl.TrackStart(k)),
		made("TrackText")(impl.TrackText(k)),
	}
}

// playerCalls calls what asks for a player of a state.
func playerCalls(k impl.Track, s [][]int, player int) []call {
	return []call{
		made("ThreatsTo")(impl.ThreatsTo(k, s, player)),
		made("IsDonePlayer")(impl.IsDonePlayer(k, s, player)),
		made("FewestMovesHome")(impl.FewestMovesHome(k, s, player)),
	}
}

// dieCalls calls what asks for a face for a player.
func dieCalls(k impl.Track, s [][]int, player int, face int) []call {
	return []call{
		made("TokensToGo")(impl.TokensToGo(k, s, player, face)),
		made("BestToken")(impl.BestToken(k, s, player, face)),
	}
}

// tokenCalls calls what asks for a face for a token.
func tokenCalls(k impl.Track, s [][]int, player int, token int, face int) []call {
	return []call{
		made("CanGo")(impl.CanGo(k, s, player, token, face)),
		made("GoToken")(impl.GoToken(k, s, player, token, face)),
	}
}

// stateCalls calls all that takes a state but IsTrackState, which takes any
// lists.
func stateCalls(k impl.Track, s [][]int, player int, token int, face int, square int) []call {
	return slices.Concat(playerCalls(k, s, player), dieCalls(k, s, player, face), tokenCalls(k, s, player, token, face), []call{
		made("TokensAt")(impl.TokensAt(k, s, square)),
		made("StepsMade")(impl.StepsMade(k, s)),
	})
}

// trackCalls calls all of the chapter but ParseTrack.
func trackCalls(k impl.Track, s [][]int, moves [][]int, m []int, square int) []call {
	return slices.Concat(trackOnlyCalls(k), outingCalls(k, moves), stateCalls(k, s, m[0], m[1], m[2], square), []call{
		made("IsTrackState")(impl.IsTrackState(k, s)),
		made("TrackSquare")(impl.TrackSquare(k, m[0], square)),
	})
}

// noTracks returns values that are no tracks.
func noTracks() []impl.Track {
	good := impl.Track{Squares: 8, Faces: 2, Tokens: 1, Starts: []int{0, 4}, Safe: []int{2, 6}}
	tracks := []impl.Track{{}}
	add := func(change func(k *impl.Track)) {
		k := good
		change(&k)
		tracks = append(tracks, k)
	}
	for _, n := range []int{math.MinInt, -1, 0, 3, 61, math.MaxInt} {
		add(func(k *impl.Track) { k.Squares, k.Starts, k.Safe = n, []int{0, 1}, nil })
	}
	for _, n := range []int{math.MinInt, -1, 0, 9, math.MaxInt} {
		add(func(k *impl.Track) { k.Faces = n })
	}
	for _, n := range []int{math.MinInt, -1, 0, 5, math.MaxInt} {
		add(func(k *impl.Track) { k.Tokens = n })
	}
	for _, starts := range [][]int{
		nil, {}, {4}, {0, 1, 2, 3, 4}, {0, 0, 0, 0, 0}, {4, 4}, {1, 4, 1}, {0, 1, 4, 4},
		{0, 8}, {8, 0}, {0, -1}, {-1, 0}, {math.MinInt, 0}, {0, 1, math.MaxInt}, make([]int, 1000),
	} {
		add(func(k *impl.Track) { k.Starts = starts })
	}
	for _, safe := range [][]int{
		{2, 2}, {1, 2, 2}, {3, 2}, {0, 2, 1}, {8}, {-1}, {0, 8}, {-1, 0}, {math.MinInt}, {math.MaxInt},
		{0, 1, 2, 3, 4, 5, 6, 7, 8}, make([]int, 1000),
	} {
		add(func(k *impl.Track) { k.Safe = safe })
	}
	return tracks
}

func TestTracksThatAreNoneFail(t *testing.T) {
	for _, k := range noTracks() {
		starts, safe := slices.Clone(k.Starts), slices.Clone(k.Safe)
		for _, s := range [][][]int{nil, {{-1}, {-1}}, {{0}, {-1}}, {{-1}}, {}, {{-1}, {-1}, {-1}, {-1}, {-1}}, {{}, {}}} {
			for _, moves := range [][][]int{nil, {{0, 0, 2}}, {{0, 0, 1}}, {nil}} {
				checkFails(t, "no track", trackCalls(k, s, moves, []int{0, 0, 2}, 0))
				checkFails(t, "no track", trackCalls(k, s, moves, []int{1, 0, 1}, 1))
			}
		}
		if !slices.Equal(starts, k.Starts) || !slices.Equal(safe, k.Safe) {
			t.Error("modified:", k)
		}
	}
}

func TestStatesThatAreNoneFail(t *testing.T) {
	k := track(t, "8o2x2:0,4:6")
	for _, s := range [][][]int{
		nil, {}, {nil, nil}, {{}, {}}, {{-1, -1}}, {{-1, -1}, {-1}}, {{-1}, {-1, -1}}, {{-1, -1}, nil}, {nil, {-1, -1}},
		{{-1, -1}, {-1, -1}, {-1, -1}}, {{-1, -1}, {-1, -1}, nil}, {{-1, -1, -1}, {-1, -1, -1}}, {{-1, -1, -1, -1}},
		{{-2, -1}, {-1, -1}}, {{-1, -1}, {-1, 9}}, {{math.MinInt, 0}, {0, 1}}, {{0, 1}, {0, math.MaxInt}},
		{{4, -1}, {0, -1}}, {{1, 0}, {7, 4}}, {{2, 3}, {7, 6}}, {{5, 6}, {2, 1}},
	} {
		before := cloneState(s)
		for square := range 8 {
			for _, p := range modelPawns(k) {
				checkFails(t, "no state", stateCalls(k, s, p[0], p[1], 1, square))
				checkFails(t, "no state", stateCalls(k, s, p[0], p[1], 2, square))
			}
		}
		checkIsState(t, k, s, false)
		checkRows(t, "modified", before)(s, true)
	}
}

// around returns numbers that are not in least..most.
func around(least int, most int) []int {
	return []int{math.MinInt, least - 2, least - 1, most + 1, most + 2, math.MaxInt}
}

func TestWhatIsToldOfStatesFails(t *testing.T) {
	for _, text := range []string{"8o2x2:0,4:6", "60o8x4:0,4,8,12:-", "4o1x1:0,1,2:0,1,2,3"} {
		k := track(t, text)
		for i := range 5 {
			s := seededState(k, i)
			for _, n := range around(0, k.Squares-1) {
				checkFails(t, "no square", []call{made("TokensAt")(impl.TokensAt(k, s, n))})
				checkFails(t, "no steps", []call{made("TrackSquare")(impl.TrackSquare(k, 0, n))})
			}
			for _, player := range around(0, len(k.Starts)-1) {
				checkFails(t, "no player", playerCalls(k, s, player))
				checkFails(t, "no player", dieCalls(k, s, player, k.Faces))
				checkFails(t, "no player", tokenCalls(k, s, player, 0, k.Faces))
				checkFails(t, "no player", []call{made("TrackSquare")(impl.TrackSquare(k, player, 0))})
			}
			for _, token := range around(0, k.Tokens-1) {
				checkFails(t, "no token", tokenCalls(k, s, 1, token, k.Faces))
			}
			for _, face := range around(1, k.Faces) {
				checkFails(t, "no face", dieCalls(k, s, 1, face))
				checkFails(t, "no face", tokenCalls(k, s, 1, 0, face))
			}
		}
	}
}

func TestStatesThatThereAreDoNotFail(t *testing.T) {
	for i, k := range largeTracks(100, 21) {
		s := seededState(k, i)
		for player := range s {
			calls := stateCalls(k, s, player, k.Tokens-1, k.Faces, k.Squares-1)
			checkAllSucceed(t, "state", slices.DeleteFunc(calls, func(c call) bool { return c.name == "GoToken" || c.name == "BestToken" }))
		}
		checkAllSucceed(t, "track", trackOnlyCalls(k))
		checkAllSucceed(t, "moves", outingCalls(k, seededMoves(k, 20, i))[:2])
	}
}

func TestGreatestNumbersOfTracksDoNotPanic(t *testing.T) {
	numbers := []int{math.MinInt, -1, 0, 1, 4, 60, math.MaxInt}
	good := track(t, "60o4x4:0,4,59,1:1,4")
	for _, x := range numbers {
		for _, y := range numbers {
			for _, z := range numbers {
				m := []int{x, y, z}
				lists := [][]int{{x, y, z, x}, {y}, m, nil}
				trackCalls(impl.Track{Squares: x, Faces: y, Tokens: z, Starts: []int{x, y}, Safe: []int{y, z}}, lists, lists, m, z)
				trackCalls(impl.Track{Squares: 60, Faces: 4, Tokens: z, Starts: m, Safe: m}, lists, lists, m, x)
				trackCalls(impl.Track{Squares: x, Faces: 1, Tokens: 1, Starts: []int{0, 1}, Safe: []int{y}}, [][]int{{z}, {x}}, lists, m, y)
				trackCalls(good, lists, lists, m, x)
				trackCalls(good, [][]int{{x, y, z, x}, {-1, -1, -1, y}, {-1, -1, -1, -1}, {60, 60, 60, z}}, [][]int{m, lists[0]}, m, y)
			}
		}
	}
	for _, s := range []string{":", ",", "-", "9", "o", "x", "0,", "1o1x1:0,1:-"} {
		impl.ParseTrack(strings.Repeat(s, 100000))
		impl.ParseTrack("8o2x1:0,4:" + strings.Repeat(s, 100000))
		impl.ParseTrack("8o2x1:0" + strings.Repeat(s, 100000) + ":-")
		impl.ParseTrack("8o2x" + strings.Repeat(s, 100000) + ":0,4:-")
		impl.ParseTrack(strings.Repeat(s, 100000) + "o2x1:0,4:-")
	}
	for k := range 256 {
		impl.ParseTrack(string([]byte{byte(k)}) + "8o2x1:0,4:-")
		impl.ParseTrack("8o2x1:0,4:-" + string([]byte{byte(k)}))
	}
}

// markedRows returns lists with room behind them, and a check that neither they
// nor the room have changed.
func markedRows(rows [][]int) ([][]int, func() bool) {
	var cut, rooms [][]int
	for _, row := range rows {
		list, room := marked(row, -7)
		cut, rooms = append(cut, list), append(rooms, room)
	}
	before := cloneState(rooms)
	outer, room := marked(cut, nil)
	return outer, func() bool {
		for i := range outer {
			if len(room[i]) != len(before[i])-4 {
				return false
			}
		}
		rest := !slices.ContainsFunc(room[len(outer):], func(row []int) bool { return row != nil })
		return rest && slices.EqualFunc(rooms, before, slices.Equal)
	}
}

// scratchTracks overwrites every list of some results, those of tracks among
// them.
func scratchTracks(calls []call) {
	scratchResults(calls)
	for _, c := range calls {
		for _, r := range c.results {
			if k, ok := r.(impl.Track); ok {
				scratch(k.Starts, -9)
				scratch(k.Safe, -9)
			}
		}
	}
}

func TestTracksShareNoMemory(t *testing.T) {
	for i, k := range largeTracks(80, 22) {
		text, ok := impl.TrackText(k)
		if !ok {
			t.Fatal("no text", k)
		}
		var starts, safe []int
		k.Starts, starts = marked(k.Starts, -7)
		k.Safe, safe = marked(k.Safe, -7)
		startsBefore, safeBefore := slices.Clone(starts), slices.Clone(safe)
		s, isSame := markedRows(seededState(k, i))
		moves, areSame := markedRows(seededMoves(k, 30, i))
		square := max(0, modelSquare(k, 0, s[0][0]))
		for _, p := range modelPawns(k) {
			all := func() []call {
				m := append(slices.Clone(p), k.Faces)
				return append(trackCalls(k, s, moves, m, square), made("ParseTrack")(impl.ParseTrack(text)))
			}
			kept := all()
			scratchTracks(all())
			if !reflect.DeepEqual(kept, all()) {
				t.Error("a result is shared:", text, s)
			}
		}
		if !slices.Equal(starts, startsBefore) || !slices.Equal(safe, safeBefore) || !isSame() || !areSame() {
			t.Error("an argument is shared or modified:", text, s, moves)
		}
	}
}

func TestListsOfOneResultOfTracksShareNoMemory(t *testing.T) {
	for i, k := range largeTracks(80, 23) {
		s := seededState(k, i)
		start, _ := impl.TrackStart(k)
		checkRowsApart(t, "TrackStart", start)
		behind, _ := impl.PlayTrack(k, seededMoves(k, 30, i))
		checkRowsApart(t, "PlayTrack", behind)
		for _, p := range modelPawns(k) {
			next, _, _ := impl.GoToken(k, s, p[0], p[1], k.Faces)
			checkRowsApart(t, "GoToken", next)
		}
		for square := range k.Squares {
			tokens, _ := impl.TokensAt(k, s, square)
			checkRowsApart(t, "TokensAt", tokens)
		}
		text, _ := impl.TrackText(k)
		got, _ := impl.ParseTrack(text)
		scratch(got.Safe, -9)
		checkList(t, "Starts", got.Starts, true, k.Starts...)
	}
}
